package merkle_test

import (
	"os"
	"os/exec"
	"path/filepath"
	"strings"
	"testing"
)

// weakSha stands in for package sha: its digests are so few that texts with one digest are found at once.
const weakSha = `package sha

func Sum(s string) string {
	n := 0
	for i := range len(s) {
		n = (31*n + int(s[i]) + 1) % 5
	}
	return string(append(make([]byte, 31), byte(n)))
}
`

// weakTest holds Clash against the chapter's words, where there is something to find.
const weakTest = `package merkle

import (
	"strconv"
	"testing"

	"codicil/sha"
)

// ups are the texts of which the digests from s on upwards are made.
func ups(s string, i, n int, path []string) []string {
	if n == 1 {
		return []string{"\x00" + s}
	}
	k := 1
	for 2*k < n {
		k *= 2
	}
	last := len(path) - 1
	if i < k {
		l := ups(s, i, k, path[:last])
		return append(l, "\x01"+sha.Sum(l[last])+path[last])
	}
	l := ups(s, i-k, n-k, path[:last])
	return append(l, "\x01"+path[last]+sha.Sum(l[last]))
}

func hold(t *testing.T, l []string, s string, i int, path []string) bool {
	x, _ := New(l)
	own, _ := x.Path(i)
	a, b, is := Clash(l, s, i, path)
	if len(path) != len(own) || s == l[i] || sha.Sum(ups(s, i, len(l), path)[len(path)]) != x.Root() {
		if a != "" || b != "" || is {
			t.Errorf("Clash(%q, %q, %d, %q) = %q, %q, %v", l, s, i, path, a, b, is)
		}
		return false
	}
	mine, theirs := ups(s, i, len(l), path), ups(l[i], i, len(l), own)
	j := 0
	for sha.Sum(mine[j]) != sha.Sum(theirs[j]) {
		j++
	}
	if a != mine[j] || b != theirs[j] || a == b || sha.Sum(a) != sha.Sum(b) || !is {
		t.Errorf("Clash(%q, %q, %d, %q) = %q, %q, %v", l, s, i, path, a, b, is)
	}
	return j > 0
}

func TestClash(t *testing.T) {
	above := 0
	for n := 1; n <= 9; n++ {
		var l []string
		for i := range n {
			l = append(l, "text "+strconv.Itoa(i))
		}
		x, _ := New(l)
		for i := range n {
			own, _ := x.Path(i)
			for k := range 12 {
				path := append([]string{}, own...)
				if len(path) > 0 && k%3 > 0 {
					path[k%len(path)] = sha.Sum(strconv.Itoa(k))
				}
				for _, s := range []string{l[i], "", "other", strconv.Itoa(k)} {
					if hold(t, l, s, i, path) {
						above++
					}
					hold(t, l, s, i, append(path, sha.Sum("")))
				}
			}
		}
	}
	if above == 0 {
		t.Error("none was found above a leaf")
	}
}
`

// No two texts with one SHA-256 digest are known: what Clash finds is tried in a copy of the package that has weak digests.
func TestClashFindsTexts(t *testing.T) {
	root := t.TempDir()
	put := func(path, text string) {
		t.Helper()
		path = filepath.Join(root, path)
		if err := os.MkdirAll(filepath.Dir(path), 0o755); err != nil {
			t.Fatal(err)
		}
		if err := os.WriteFile(path, []byte(text), 0o644); err != nil {
			t.Fatal(err)
		}
	}
	files := []string{"../go.mod", "../api/api.go"}
	own, _ := filepath.Glob("*.go")
	for _, f := range append(files, own...) {
		if strings.HasSuffix(f, "_test.go") {
			continue
		}
		text, err := os.ReadFile(f)
		if err != nil {
			t.Fatal(err)
		}
		put(filepath.Join("merkle", f), string(text))
	}
	put("sha/sha.go", weakSha)
	put("merkle/clash_test.go", weakTest)
	test := exec.Command("go", "test", "./merkle")
	test.Dir = root
	if out, err := test.CombinedOutput(); err != nil {
		t.Errorf("%v\n%s", err, out)
	}
}
