package bailey_test

import (
	"crypto/hmac"
	"crypto/sha256"
	"math/rand"
	"slices"
	"strings"
	"testing"

	"bailey/api"
	"bailey/bailey"
	"bailey/sink"
)

// model is a vault by the document's words, as plain as can be: lists that are gone through, and a log kept whole.
type model struct {
	tokens []modelToken
	paths  []modelPath
	frames []string
	last   [32]byte
	sinks  []modelSink
}

type modelToken struct {
	name, prefix string
	rights       int
}

type modelPath struct {
	name   string
	next   int
	values [api.MaxVersions + 1]*string // by numbers; nil: there is no such version
}

// modelSink: how many frames it has, and which of its Appends fail.
type modelSink struct {
	has, appends int
	fails        []int
}

// wish is a request, in pieces.
type wish struct {
	op                        byte
	who, path, value          string
	version                   int
	name, prefix              string
	rights                    int
	spoiled                   bool
	bytes                     string
	tagged, shownPath, behind string // what its entry tells
}

func modelTag(s string) string {
	m := hmac.New(sha256.New, []byte("key"))
	m.Write([]byte(s))
	return string(m.Sum(nil))
}

// wishFor makes a request out of few names, so that requests have to do with one another.
func wishFor(r *rand.Rand) wish {
	pick := func(l ...string) string { return l[r.Intn(len(l))] }
	anyPath := func() string { return pick("a", "a/b", "a/c", "ab", "b") + pick("", "", "1", "2", "/3") }
	anyName := func() string { return pick("adm", "joe", "eve", "t", "t") + pick("", "", "1", "2", "3", "4") }
	w := wish{op: "PPPPGGGDLTTR"[r.Intn(12)], who: pick("adm", "adm", "adm", "adm", anyName()), path: anyPath(), value: strings.Repeat(pick("v", "w", "\x00"), r.Intn(41)), version: []int{0, 0, 1, 2, 3, 20, 21, 255}[r.Intn(8)], name: anyName(), prefix: pick("", "a", "a/", "b"), rights: 1 + r.Intn(7)}
	w.write()
	if r.Intn(12) == 0 {
		w.spoil(r)
	}
	return w
}

// write makes its bytes out of its pieces, and what its entry tells.
func (w *wish) write() {
	w.tagged, w.shownPath = w.who, w.path
	switch w.op {
	case 'P':
		w.bytes, w.behind = put(w.who, w.path, w.value), text(w.value)
	case 'G':
		w.bytes, w.behind = get(w.who, w.path, w.version), byteOf(w.version)
	case 'D':
		w.bytes = drop(w.who, w.path)
	case 'L':
		w.path = w.prefix
		w.shownPath = w.prefix
		w.bytes = list(w.who, w.prefix)
	case 'T':
		w.bytes, w.shownPath, w.behind = grant(w.who, w.name, w.prefix, w.rights), "", text(w.name)+text(w.prefix)+byteOf(w.rights)
	case 'R':
		w.bytes, w.shownPath, w.behind = revoke(w.who, w.name), "", text(w.name)
	}
}

// spoil makes it no request: no request begins with another one.
func (w *wish) spoil(r *rand.Rand) {
	bytes := w.bytes + "\x00"
	if r.Intn(2) == 0 {
		bytes = w.bytes[:r.Intn(len(w.bytes))]
	}
	*w = wish{spoiled: true, bytes: bytes, tagged: bytes}
}

func newModel(sinks int) *model {
	return &model{tokens: []modelToken{{"adm", "", 7}}, sinks: make([]modelSink, sinks)}
}

// apart: a model that goes on by itself from here, with sinks that never fail.
func (m *model) apart() *model {
	c := &model{m.tokens, m.paths, slices.Clone(m.frames), m.last, make([]modelSink, len(m.sinks))}
	for i, s := range m.sinks {
		c.sinks[i].has = s.has
	}
	return c
}

// answer tells the answer, and what it makes of tokens and paths.
func (m *model) answer(w wish) (string, []modelToken, []modelPath) {
	tokens, paths := slices.Clone(m.tokens), slices.Clone(m.paths)
	if w.spoiled {
		return form, tokens, paths
	}
	who := slices.IndexFunc(tokens, func(t modelToken) bool { return t.name == w.who })
	if who < 0 {
		return unknown, tokens, paths
	}
	right := map[byte]int{'P': 2, 'G': 1, 'D': 2, 'L': 1, 'T': 4, 'R': 4}[w.op]
	if tokens[who].rights&right == 0 || right != 4 && !strings.HasPrefix(w.path, tokens[who].prefix) {
		return denied, tokens, paths
	}
	if right == 4 {
		a, tokens := answerOfTokens(w, tokens)
		return a, tokens, paths
	}
	a, paths := answerOfPaths(w, paths)
	return a, tokens, paths
}

func answerOfTokens(w wish, tokens []modelToken) (string, []modelToken) {
	at := slices.IndexFunc(tokens, func(t modelToken) bool { return t.name == w.name })
	switch {
	case w.op == 'T' && at >= 0:
		return exists, tokens
	case w.op == 'T' && len(tokens) == 8:
		return full, tokens
	case w.op == 'T':
		return ok, append(tokens, modelToken{w.name, w.prefix, w.rights})
	case at < 0:
		return none, tokens
	case w.name == "adm":
		return denied, tokens
	}
	return ok, slices.Delete(tokens, at, at+1)
}

func answerOfPaths(w wish, paths []modelPath) (string, []modelPath) {
	at := slices.IndexFunc(paths, func(p modelPath) bool { return p.name == w.path })
	switch w.op {
	case 'P':
		if at < 0 && len(paths) == 16 || at >= 0 && paths[at].next > 20 {
			return full, paths
		}
		if at < 0 {
			at = len(paths)
			paths = append(paths, modelPath{name: w.path, next: 1})
		}
		n := paths[at].next
		paths[at].values[n] = &w.value
		paths[at].next++
		return ok + byteOf(n), paths
	case 'G':
		for n := 20; at >= 0 && n > 0; n-- {
			if v := paths[at].values[n]; v != nil && (w.version == n || w.version == 0) {
				return ok + text(*v), paths
			}
		}
		return none, paths
	case 'D':
		if at < 0 || !paths[at].hasVersions() {
			return none, paths
		}
		paths[at].values = modelPath{}.values
		return ok, paths
	}
	var found []string
	for _, p := range paths {
		if p.hasVersions() && strings.HasPrefix(p.name, w.prefix) {
			found = append(found, p.name)
		}
	}
	slices.Sort(found)
	out := ok + byteOf(len(found))
	for _, s := range found {
		out += text(s)
	}
	return out, paths
}

func (p modelPath) hasVersions() bool {
	return slices.ContainsFunc(p.values[:], func(v *string) bool { return v != nil })
}

// do tells what Do is to answer.
func (m *model) do(w wish) string {
	a, tokens, paths := m.answer(w)
	n := len(m.frames)
	entry := string(m.last[:]) + string([]byte{byte(n), byte(n >> 8), 0, 0, w.op}) + modelTag(w.tagged) + text(w.shownPath) + modelTag(w.behind) + a[:1] + modelTag(a[1:])
	taken := false
	for i := range m.sinks {
		taken = m.sinks[i].give(n+1) || taken
	}
	if !taken {
		return audit
	}
	m.frames = append(m.frames, byteOf(len(entry))+"\x00"+entry)
	m.last = sha256.Sum256([]byte(entry))
	m.tokens, m.paths = tokens, paths
	return a
}

// give gives a sink what it has not of so many frames.
func (s *modelSink) give(frames int) bool {
	for s.has < frames {
		s.appends++
		if slices.Contains(s.fails, s.appends) {
			return false
		}
		s.has++
	}
	return true
}

// fail lets some next Appends of a sink fail.
func (m *model) fail(r *rand.Rand, l []*sink.Sink) {
	i := r.Intn(len(l))
	fails := r.Perm(12)[:r.Intn(10)]
	l[i].Fail(fails)
	m.sinks[i].fails, m.sinks[i].appends = fails, 0
}

// agrees checks a vault's head and its sinks against the model.
func (m *model) agrees(t *testing.T, v *bailey.Vault, l []*sink.Sink) {
	t.Helper()
	if n, h := v.Head(); n != len(m.frames) || h != m.last {
		t.Fatalf("P9: Head is %d, %x, want %d, %x", n, h, len(m.frames), m.last)
	}
	for i, s := range m.sinks {
		if l[i].Read() != strings.Join(m.frames[:s.has], "") {
			t.Fatalf("P9: the sink %d has not the first %d frames of the log", i, s.has)
		}
	}
}

// Many requests by chance, to vaults whose sinks fail by chance: answers, heads and sinks are as the model tells.
func TestVaultAgainstModel(t *testing.T) {
	seen := map[string]int{}
	for seed := range 60 {
		r := rand.New(rand.NewSource(int64(seed)))
		count := 1 + seed%4
		l := newSinks(count)
		v := open(t, l)
		m := newModel(count)
		for range 300 {
			if r.Intn(10) == 0 {
				m.fail(r, l)
			}
			w := wishFor(r)
			want := m.do(w)
			seen[want[:1]]++
			if got := v.Do(w.bytes); got != want {
				t.Fatalf("P7: seed %d: Do(%q) = %q, want %q", seed, w.bytes, got, want)
			}
			m.agrees(t, v, l)
		}
		for i, s := range m.sinks {
			checkSink(t, l[i].Read(), s.has, m.frames)
		}
	}
	for e := range 8 {
		if seen[byteOf(e)] < 20 {
			t.Errorf("the answer %d came %d times: too seldom to tell", e, seen[byteOf(e)])
		}
	}
}

// checkSink: what a sink has is taken by Verify, with as many entries and the digest of the last one.
func checkSink(t *testing.T, log string, n int, frames []string) {
	t.Helper()
	var head api.Hash
	if n > 0 {
		head = bailey.Digest(frames[n-1][2:])
	}
	if e, k := bailey.Verify(log, n, head); e != api.OK || k != n {
		t.Errorf("P12: Verify of a sink with %d frames: %d, %d", n, e, k)
	}
}

// Whatever is asked, there is an answer, and one entry more.
func FuzzDo(f *testing.F) {
	for _, s := range []string{"", "x", put("adm", "a", "1"), get("adm", "a", 0), drop("adm", "a"), list("adm", "a"), grant("adm", "joe", "a/", 3), revoke("adm", "joe")} {
		f.Add(s, s)
	}
	f.Fuzz(func(t *testing.T, a string, b string) {
		l := newSinks(1)
		v := open(t, l)
		for _, s := range []string{put("adm", "a", "0"), a, b, a} {
			if out := v.Do(s); out == "" || out[0] > byte(api.ErrExists) || out[0] != 0 && len(out) > 1 {
				t.Errorf("P1: Do(%q) = %q", s, out)
			}
		}
		countIs(t, v, l, 4)
	})
}
