// Package bailey: secrets, and a chain of all that was asked: see DOC.md.
package bailey

import (
	"slices"
	"strings"

	"bailey/api"
	"bailey/audit"
	"bailey/chain"
	"bailey/digest"
	"bailey/disk"
	"bailey/journal"
	"bailey/names"
	"bailey/requests"
	"bailey/sink"
	"bailey/store"
	"bailey/tree"
)

// Vault has secrets, and an audit log.
type Vault struct {
	key     string
	journal *journal.Journal
	log     *audit.Log
	store   *store.Store
	down    bool // a request was not answered, since the disk is stopped
}

// Digest tells a digest (P3).
func Digest(s string) api.Hash { return digest.Of(s) }

// Tag tells a tag (P3).
func Tag(key string, s string) api.Hash { return digest.Tag(key, s) }

// Root tells a root (P3).
func Root(l []string) api.Hash { return tree.Root(l) }

// Proof tells a proof (P3).
func Proof(l []string, i int) ([]api.Hash, api.Errno) { return tree.Proof(l, i) }

// Proves tells whether a proof is one (P3).
func Proves(s string, i int, n int, proof []api.Hash, root api.Hash) bool {
	return tree.Proves(s, i, n, proof, root)
}

// Verify checks a log against its head (P4).
func Verify(log string, n int, head api.Hash) (api.Errno, int) { return chain.Verify(log, n, head) }

// Clash tells two texts with one digest (P5).
func Clash(a string, b string) (string, string, api.Errno) { return chain.Clash(a, b) }

// Open makes a vault of what is on a disk and in sinks (P6, P10).
func Open(d *disk.Disk, l []*sink.Sink, key string, root string) (*Vault, api.Errno) {
	if len(l) < 1 || len(l) > api.MaxSinks || slices.Contains(l, nil) || !names.IsName(root) {
		return nil, api.ErrArg
	}
	j, up := journal.Open(d)
	if !up {
		return nil, api.ErrDown
	}
	log, entries := audit.Open(l)
	v := &Vault{key: strings.Clone(key), journal: j, log: log, store: store.New(root)}
	for _, request := range j.Requests(entries) {
		_, outcome := v.ask(request)
		outcome.Carry()
	}
	return v, api.OK
}

// Do does a request (P7 to P9, P11).
func (v *Vault) Do(request string) string {
	if v.down {
		return ""
	}
	q, outcome := v.ask(request)
	next := v.log.Bind(v.entry(request, q, outcome))
	if outcome.Changes() && !v.journal.Write(next.Digest, request) {
		v.down = true
		return ""
	}
	if !v.log.Lay(next) {
		return store.Refused(api.ErrAudit).Answer()
	}
	outcome.Carry()
	return outcome.Answer()
}

// ask reads a request, and tells what it will come to.
func (v *Vault) ask(request string) (requests.Request, store.Outcome) {
	q, right := requests.Read(request)
	if !right {
		return q, store.Refused(api.ErrForm)
	}
	return q, v.store.Ask(q)
}

// entry tells what the entry of a request has; what is no request has no op.
func (v *Vault) entry(request string, q requests.Request, o store.Outcome) chain.Entry {
	who := q.Token
	if q.Op == 0 {
		who = request
	}
	return chain.Entry{
		Op:    q.Op,
		Who:   digest.Tag(v.key, who),
		Path:  q.Path,
		Rest:  digest.Tag(v.key, q.Rest),
		Error: o.Error,
		More:  digest.Tag(v.key, o.More),
	}
}

// Head tells how many entries there are, and the digest of the last one (P6).
func (v *Vault) Head() (int, api.Hash) { return v.log.Head() }
