// Package bailey: secrets, and a chain of all that was asked: see DOC.md.
package bailey

import (
	"bailey/api"
	"bailey/chain"
	"bailey/digest"
	"bailey/disk"
	"bailey/sink"
	"bailey/tree"
)

// Vault has secrets, and an audit log.
type Vault struct{}

// Digest tells a digest (P3).
func Digest(s string) api.Hash { return digest.Of(s) }

// Tag tells a tag (P3).
func Tag(key string, s string) api.Hash { return digest.Tag(key, s) }

// Root tells a root (P3).
func Root(l []string) api.Hash { return tree.Root(l) }

// Proof tells a proof (P3).
func Proof(l []string, i int) ([]api.Hash, api.Errno) { return tree.Proof(l, i) }

// Proves tells whether a proof is one (P3).
func Proves(s string, i int, n int, proof []api.Hash, root api.Hash) bool {
	return tree.Proves(s, i, n, proof, root)
}

// Verify checks a log against its head (P4).
func Verify(log string, n int, head api.Hash) (api.Errno, int) { return chain.Verify(log, n, head) }

// Clash tells two texts with one digest (P5).
func Clash(a string, b string) (string, string, api.Errno) { return chain.Clash(a, b) }

// Open makes a vault of what is on a disk and in sinks (P6, P10).
func Open(d *disk.Disk, l []*sink.Sink, key string, root string) (*Vault, api.Errno) {
	return nil, api.OK
}

// Do does a request (P7 to P9).
func (v *Vault) Do(request string) string { return "" }

// Head tells how many entries there are, and the digest of the last one (P6).
func (v *Vault) Head() (int, api.Hash) { return 0, api.Hash{} }
