// Package bailey: secrets, and a chain of all that was asked: see DOC.md.
package bailey

import (
	"slices"
	"strings"

	"bailey/api"
	"bailey/audit"
	"bailey/chain"
	"bailey/digest"
	"bailey/disk"
	"bailey/names"
	"bailey/requests"
	"bailey/sink"
	"bailey/store"
	"bailey/tree"
)

// Vault has secrets, and an audit log.
type Vault struct {
	key   string
	log   *audit.Log
	store *store.Store
}

// Digest tells a digest (P3).
func Digest(s string) api.Hash { return digest.Of(s) }

// Tag tells a tag (P3).
func Tag(key string, s string) api.Hash { return digest.Tag(key, s) }

// Root tells a root (P3).
func Root(l []string) api.Hash { return tree.Root(l) }

// Proof tells a proof (P3).
func Proof(l []string, i int) ([]api.Hash, api.Errno) { return tree.Proof(l, i) }

// Proves tells whether a proof is one (P3).
func Proves(s string, i int, n int, proof []api.Hash, root api.Hash) bool {
	return tree.Proves(s, i, n, proof, root)
}

// Verify checks a log against its head (P4).
func Verify(log string, n int, head api.Hash) (api.Errno, int) { return chain.Verify(log, n, head) }

// Clash tells two texts with one digest (P5).
func Clash(a string, b string) (string, string, api.Errno) { return chain.Clash(a, b) }

// Open makes a vault of what is on a disk and in sinks (P6, P10).
func Open(d *disk.Disk, l []*sink.Sink, key string, root string) (*Vault, api.Errno) {
	if len(l) < 1 || len(l) > api.MaxSinks || slices.Contains(l, nil) || !names.IsName(root) {
		return nil, api.ErrArg
	}
	return &Vault{key: strings.Clone(key), log: audit.New(l), store: store.New(root)}, api.OK
}

// Do does a request (P7 to P9).
func (v *Vault) Do(request string) string {
	entry, outcome := v.ask(request)
	if !v.log.Lay(entry) {
		return store.Refused(api.ErrAudit).Answer()
	}
	outcome.Carry()
	return outcome.Answer()
}

// ask tells the entry of a request, and what this will come to once that is laid.
func (v *Vault) ask(request string) (chain.Entry, store.Outcome) {
	q, right := requests.Read(request)
	who, outcome := request, store.Refused(api.ErrForm)
	if right {
		who, outcome = q.Token, v.store.Ask(q)
	}
	return chain.Entry{
		Op:    q.Op,
		Who:   digest.Tag(v.key, who),
		Path:  q.Path,
		Rest:  digest.Tag(v.key, q.Rest),
		Error: outcome.Error,
		More:  digest.Tag(v.key, outcome.More),
	}, outcome
}

// Head tells how many entries there are, and the digest of the last one (P6).
func (v *Vault) Head() (int, api.Hash) { return v.log.Head() }
