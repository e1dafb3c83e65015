// Package store: tokens and secrets, and what is done with each op: see DOC.md, 'The vault', P7 and P8.
package store

import (
	"maps"
	"slices"
	"strings"

	"bailey/api"
	"bailey/pack"
	"bailey/requests"
)

// token lets some requests.
type token struct {
	prefix string
	rights byte
}

// version is one of the values that a path had put to it.
type version struct {
	number byte
	value  string
}

// path has the versions that were put to it and not taken away. It stays when it has none, so that no number is
// given twice.
type path struct {
	next     byte
	versions []version // rising
}

// Store has tokens and paths.
type Store struct {
	root   string
	tokens map[string]token
	paths  map[string]*path
}

// New makes a store with one token, root, which may do everything.
func New(root string) *Store {
	root = strings.Clone(root)
	return &Store{
		root:   root,
		tokens: map[string]token{root: {rights: api.Read | api.Write | api.Admin}},
		paths:  map[string]*path{},
	}
}

// Outcome is what comes of a request. It is told ahead of its being done, since its entry must be laid in between.
type Outcome struct {
	Error  api.Errno
	More   string // the answer's bytes behind the error
	change func() // nil: nothing changes
}

// Refused tells the outcome of a request that is answered by an error.
func Refused(e api.Errno) Outcome { return Outcome{Error: e} }

// Answer tells the answer's bytes.
func (o Outcome) Answer() string { return pack.Byte(byte(o.Error)) + o.More }

// Changes tells whether there is anything to be done.
func (o Outcome) Changes() bool { return o.change != nil }

// Carry does what was asked for. It is called once at most, ahead of the next Ask.
func (o Outcome) Carry() {
	if o.Changes() {
		o.change()
	}
}

// deed is what is done with an op.
type deed struct {
	right  byte // which a token must have
	inPath bool // whether the token's prefix counts
	ask    func(s *Store, q requests.Request) Outcome
}

// deeds tells what is done with each op.
func deeds() map[byte]deed {
	return map[byte]deed{
		'P': {api.Write, true, (*Store).put},
		'G': {api.Read, true, (*Store).get},
		'D': {api.Write, true, (*Store).drop},
		'L': {api.Read, true, (*Store).list},
		'T': {api.Admin, false, (*Store).grant},
		'R': {api.Admin, false, (*Store).revoke},
	}
}

// Ask tells what a request will come to. Nothing changes yet.
func (s *Store) Ask(q requests.Request) Outcome {
	d := deeds()[q.Op]
	t, known := s.tokens[q.Token]
	if !known {
		return Refused(api.ErrToken)
	}
	if t.rights&d.right == 0 || d.inPath && !strings.HasPrefix(q.Path, t.prefix) {
		return Refused(api.ErrDenied)
	}
	return d.ask(s, q)
}

func (s *Store) put(q requests.Request) Outcome {
	p, known := s.paths[q.Path]
	if !known && len(s.paths) >= api.MaxPaths {
		return Refused(api.ErrFull)
	}
	if !known {
		p = &path{next: 1}
	}
	if p.next > api.MaxVersions {
		return Refused(api.ErrFull)
	}
	return Outcome{More: pack.Byte(p.next), change: func() {
		s.paths[strings.Clone(q.Path)] = p
		p.versions = append(p.versions, version{p.next, strings.Clone(q.Value)})
		p.next++
	}}
}

func (s *Store) get(q requests.Request) Outcome {
	versions := s.versionsOf(q.Path)
	for i, v := range versions {
		greatest := i == len(versions)-1
		if v.number == q.Version || q.Version == 0 && greatest {
			return Outcome{More: pack.Text(v.value)}
		}
	}
	return Refused(api.ErrNone)
}

func (s *Store) drop(q requests.Request) Outcome {
	if len(s.versionsOf(q.Path)) == 0 {
		return Refused(api.ErrNone)
	}
	return Outcome{change: func() { s.paths[q.Path].versions = nil }}
}

func (s *Store) list(q requests.Request) Outcome {
	var found []string
	for _, name := range slices.Sorted(maps.Keys(s.paths)) {
		if strings.HasPrefix(name, q.Path) && len(s.versionsOf(name)) > 0 {
			found = append(found, pack.Text(name))
		}
	}
	return Outcome{More: pack.Byte(byte(len(found))) + strings.Join(found, "")}
}

// versionsOf tells the versions of a path, which may be new.
func (s *Store) versionsOf(name string) []version {
	p, known := s.paths[name]
	if !known {
		return nil
	}
	return p.versions
}

func (s *Store) grant(q requests.Request) Outcome {
	if _, known := s.tokens[q.Name]; known {
		return Refused(api.ErrExists)
	}
	if len(s.tokens) >= api.MaxTokens {
		return Refused(api.ErrFull)
	}
	return Outcome{change: func() {
		s.tokens[strings.Clone(q.Name)] = token{strings.Clone(q.Prefix), q.Rights}
	}}
}

func (s *Store) revoke(q requests.Request) Outcome {
	if _, known := s.tokens[q.Name]; !known {
		return Refused(api.ErrNone)
	}
	if q.Name == s.root {
		return Refused(api.ErrDenied)
	}
	return Outcome{change: func() { delete(s.tokens, q.Name) }}
}
