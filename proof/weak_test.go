package proof_test

import (
	"os"
	"os/exec"
	"path/filepath"
	"strings"
	"testing"
)

// weakSha stands in for package sha: its digests are so few that texts with one digest are found at once.
const weakSha = `package sha

func Sum(s string) string {
	n := 0
	for i := range len(s) {
		n = (31*n + int(s[i]) + 1) % 3
	}
	return string(append(make([]byte, 31), byte(n)))
}
`

// weakTest holds Clash against the chapter's words, where there is something to find.
const weakTest = `package proof

import (
	"math/rand"
	"reflect"
	"strconv"
	"strings"
	"testing"

	"codicil/api"
	"codicil/journal"
	"codicil/ledger"
	"codicil/merkle"
	"codicil/sha"
)

// found counts in which ways something was found, or was not.
type found struct {
	byHead, byRev, beyond, bare, there, unlike, nothing int
}

// want is what Clash comes to by the chapter's words.
func (f *found) want(l api.Ledger, n uint64, r api.Rev, p api.Proof) (string, string, bool) {
	top, _ := Tip(l, n)
	if !Shows(top, r, p) {
		f.nothing++
		return "", "", false
	}
	var heads, revs []string
	for _, b := range l.Blocks[:n] {
		h, _ := journal.Short(b)
		heads = append(heads, journal.HeadText(h))
	}
	b := l.Blocks[p.Head.Seq-1]
	h, _ := journal.Short(b)
	for i, x := range b.Revs {
		if i == p.Index && reflect.DeepEqual(x, r) {
			f.there++
			if p.Head != h {
				f.unlike++
			}
			return "", "", false
		}
		s, _ := journal.RevText(x)
		revs = append(revs, s)
	}
	if p.Head != h {
		f.byHead++
		if p.Index >= len(b.Revs) {
			f.beyond++
		}
		if journal.HeadText(p.Head) == "" {
			f.bare++
		}
		return merkle.Clash(heads, journal.HeadText(p.Head), int(p.Head.Seq)-1, p.Blocks)
	}
	f.byRev++
	s, _ := journal.RevText(r)
	return merkle.Clash(revs, s, p.Index, p.Path)
}

func (f *found) hold(t *testing.T, l api.Ledger, n uint64, r api.Rev, p api.Proof) {
	x, y, was := f.want(l, n, r, p)
	a, b, is := Clash(l, n, r, p)
	if a != x || b != y || is != was {
		t.Fatalf("Clash(%d, %v, %v) = %q, %q, %v, not %q, %q, %v", n, r, p, a, b, is, x, y, was)
	}
	if is && (a == b || sha.Sum(a) != sha.Sum(b)) || !is && a+b != "" {
		t.Fatalf("Clash(%d, %v, %v) = %q, %q, %v", n, r, p, a, b, is)
	}
}

// digest is any one.
func digest(m *rand.Rand) string { return sha.Sum(strconv.Itoa(m.Intn(99))) }

func changed(m *rand.Rand, l []string) []string {
	out := append([]string{}, l...)
	if len(out) > 0 && m.Intn(2) == 0 {
		out[m.Intn(len(out))] = digest(m)
	}
	return out
}

func changedHead(m *rand.Rand, h api.Head) api.Head {
	switch m.Intn(8) {
	case 0:
		h.Prev = digest(m)
	case 1:
		h.Root = digest(m)
	case 2:
		h.Statements = strconv.Itoa(m.Intn(99))
	case 3:
		h.Prev = strings.Repeat("x", 1025)
	}
	return h
}

// madeUp is a proof whose block has any number of revisions.
func madeUp(m *rand.Rand, p api.Proof) api.Proof {
	n := 1 + m.Intn(8)
	tree, _ := merkle.New(make([]string, n))
	p.Index = m.Intn(n)
	p.Path, _ = tree.Path(p.Index)
	for i := range p.Path {
		p.Path[i] = digest(m)
	}
	p.Head.Revs, p.Head.Root, p.Head.Statements = uint64(n), digest(m), strconv.Itoa(m.Intn(99))
	return p
}

func TestClash(t *testing.T) {
	l := ledger.New()
	for i := range 6 {
		x, id, _ := ledger.Begin(l)
		for j := range i + 1 {
			text := "INSERT INTO t {a: " + strconv.Itoa(j) + "}"
			if i == 0 {
				text = "CREATE TABLE t"
			}
			x, _, _ = ledger.Exec(x, id, text, 99)
		}
		next, seq, why := ledger.Commit(x, id)
		if seq != uint64(i+1) || why != api.OK {
			t.Fatalf("Commit: %d, error %d", seq, why)
		}
		l = next
	}
	m := rand.New(rand.NewSource(183))
	var f found
	for range 2000 {
		n := uint64(1 + m.Intn(6))
		seq := uint64(1 + m.Intn(int(n)))
		r, p, why := Prove(l, seq, m.Intn(len(l.Blocks[seq-1].Revs)), n)
		if why != api.OK {
			t.Fatalf("Prove: error %d", why)
		}
		if m.Intn(3) > 0 {
			r.Version += uint64(m.Intn(9))
			if r.Kind == api.RevTable {
				r = api.Rev{Kind: api.RevTable, Table: strconv.Itoa(m.Intn(99))}
			}
		}
		if m.Intn(4) == 0 {
			p.Index = max(p.Index+m.Intn(3)-1, 0)
		}
		if m.Intn(3) == 0 {
			p = madeUp(m, p)
		}
		p.Head, p.Path, p.Blocks = changedHead(m, p.Head), changed(m, p.Path), changed(m, p.Blocks)
		f.hold(t, l, n, r, p)
		f.hold(t, l, uint64(m.Intn(8)), r, p)
	}
	for _, many := range []int{f.byHead, f.byRev, f.beyond, f.bare, f.there, f.unlike, f.nothing} {
		if many < 10 {
			t.Errorf("found %+v", f)
		}
	}
	// Where the ledger is not right, or n is beyond its blocks, nothing is found, whatever is shown.
	t.Run("refused", func(t *testing.T) { refused(t, l) })
}

func refused(t *testing.T, l api.Ledger) {
	r, p, _ := Prove(l, 2, 0, 2)
	wrong := l
	wrong.Last = 0
	wrong.Sessions = []api.Session{{Id: 1, View: api.View{Base: l.State}}}
	clashes := 0
	for range 50 {
		r.Version++
		if _, _, is := Clash(l, 2, r, p); is {
			clashes++
		}
		if a, b, is := Clash(wrong, 2, r, p); a+b != "" || is {
			t.Errorf("of a ledger that is not right: %q, %q, %v", a, b, is)
		}
		if a, b, is := Clash(l, 7, r, p); a+b != "" || is {
			t.Errorf("of 7 blocks: %q, %q, %v", a, b, is)
		}
	}
	if clashes == 0 {
		t.Error("none was found")
	}
}
`

// layers are those that package proof is built on, but for sha.
func layers() []string {
	return []string{"api", "value", "bin", "merkle", "journal", "btree", "table", "lex", "parse", "expr", "plan", "code", "vm", "own", "view", "occ", "ledger", "proof"}
}

// 18.3, 18.6: no two texts with one SHA-256 digest are known: what Clash finds is tried in a copy of the layers that has weak digests.
func TestClashFindsTexts(t *testing.T) {
	root := t.TempDir()
	put := func(path, text string) {
		t.Helper()
		path = filepath.Join(root, path)
		if err := os.MkdirAll(filepath.Dir(path), 0o755); err != nil {
			t.Fatal(err)
		}
		if err := os.WriteFile(path, []byte(text), 0o644); err != nil {
			t.Fatal(err)
		}
	}
	files := []string{"go.mod"}
	for _, layer := range layers() {
		l, _ := filepath.Glob(filepath.Join("..", layer, "*.go"))
		for _, f := range l {
			if !strings.HasSuffix(f, "_test.go") {
				files = append(files, filepath.Join(layer, filepath.Base(f)))
			}
		}
	}
	for _, f := range files {
		text, err := os.ReadFile(filepath.Join("..", f))
		if err != nil {
			t.Fatal(err)
		}
		put(f, string(text))
	}
	put("sha/sha.go", weakSha)
	put("proof/clash_test.go", weakTest)
	test := exec.Command("go", "test", "./proof")
	test.Dir = root
	if out, err := test.CombinedOutput(); err != nil {
		t.Errorf("%v\n%s", err, out)
	}
}
