// Package requests: reads what is asked of a vault: see DOC.md, 'Requests'.
package requests

import (
	"bailey/api"
	"bailey/names"
	"bailey/scan"
)

// allRights is the sum of all rights.
const allRights = api.Read | api.Write | api.Admin

// Request is what is asked; what its op has not is empty or 0.
type Request struct {
	Op      byte
	Token   string
	Path    string // the path or prefix of P, G, D and L
	Rest    string // the bytes behind the path; of T and R: behind the token
	Value   string
	Version byte
	Name    string // of a token that is to come or to go
	Prefix  string // of a token that is to come
	Rights  byte   // of a token that is to come
}

// Read reads a request; false: it is none.
func Read(s string) (q Request, ok bool) {
	defer func() {
		if recover() != nil {
			q, ok = Request{}, false
		}
	}()
	r := scan.New(s)
	q.Op = r.Byte()
	q.Token = readName(r)
	read := readings()[q.Op]
	scan.Want(read != nil)
	read(&q, r)
	r.End()
	return q, true
}

// reading reads what stands behind the token.
type reading func(q *Request, r *scan.Reader)

// readings tells how each op goes on.
func readings() map[byte]reading {
	return map[byte]reading{
		'P': (*Request).readPut,
		'G': (*Request).readGet,
		'D': (*Request).readPath,
		'L': (*Request).readList,
		'T': (*Request).readGrant,
		'R': (*Request).readNamed,
	}
}

func (q *Request) readPut(r *scan.Reader) {
	q.readPath(r)
	q.Value = r.Text()
	scan.Want(len(q.Value) <= api.MaxValue)
}

func (q *Request) readGet(r *scan.Reader) {
	q.readPath(r)
	q.Version = r.Byte()
}

func (q *Request) readPath(r *scan.Reader) {
	q.Path = r.Text()
	scan.Want(names.IsPath(q.Path))
	q.Rest = r.Left()
}

func (q *Request) readList(r *scan.Reader) { q.Path = readPrefix(r) }

func (q *Request) readGrant(r *scan.Reader) {
	q.readNamed(r)
	q.Prefix = readPrefix(r)
	q.Rights = r.Byte()
	scan.Want(1 <= q.Rights && q.Rights <= allRights)
}

func (q *Request) readNamed(r *scan.Reader) {
	q.Rest = r.Left()
	q.Name = readName(r)
}

func readName(r *scan.Reader) string {
	s := r.Text()
	scan.Want(names.IsName(s))
	return s
}

func readPrefix(r *scan.Reader) string {
	s := r.Text()
	scan.Want(names.IsPrefix(s))
	return s
}
