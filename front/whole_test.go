package front_test

import (
	"fmt"
	"math/bits"
	"slices"
	"strings"
	"testing"

	"codicil/api"
	"codicil/front"
)

// What the program promises as a whole, seen from its front.

// answers are the lines that a script comes to.
func answers(t *testing.T, l []string) []string {
	t.Helper()
	text, why, at := front.Run(api.MaxDisk, strings.Join(l, "\n")+"\n")
	if why != api.OK || strings.Count(text, "\n") != len(l) {
		t.Fatalf("Run(%s): %s, error %d, line %d", show(l), show(text), why, at)
	}
	return strings.Split(text, "\n")[:len(l)]
}

// started are the lines ahead of a story: a table with documents, with an index or without.
func started(index bool) []string {
	l := []string{"begin", "exec 1 CREATE TABLE t", "exec 1 CREATE TABLE u"}
	if index {
		l = append(l, "exec 1 CREATE INDEX ON t (a)")
	}
	for i := range 8 {
		l = append(l, fmt.Sprintf("exec 1 INSERT INTO t {a: %d, b: %d}", i%4, i))
	}
	return append(l, "commit 1")
}

// P6: what a statement comes to is the same, whether an index helps or not.
func TestIndexOrNot(t *testing.T) {
	m := newMaker(6)
	for range 40 {
		var l []string
		for range 12 {
			s := m.statement()
			if !strings.HasPrefix(s, "CREATE INDEX") {
				l = append(l, "exec 2 "+s)
			}
		}
		l = append(append([]string{"begin"}, l...), "commit 2")
		with, without := answers(t, append(started(true), l...)), answers(t, append(started(false), l...))
		for i := range l {
			if a, b := with[len(with)-len(l)+i], without[len(without)-len(l)+i]; a != b {
				t.Errorf("P6: %s: with an index %s, without %s", show(l[i]), show(a), show(b))
			}
		}
	}
}

// P7: sessions that are committed came to what they come to one by one.
func TestOneByOne(t *testing.T) {
	m := newMaker(7)
	beside := 0
	for range 40 {
		ahead := started(m.Intn(2) == 0)
		l := append(ahead[:len(ahead):len(ahead)], "begin", "begin", "begin", "begin")
		for range 16 {
			l = append(l, fmt.Sprint("exec ", 2+m.Intn(4), " ", m.statement()))
		}
		for _, i := range m.Perm(4) {
			l = append(l, fmt.Sprint("commit ", 2+i))
		}
		came := answers(t, append(l, "tip"))
		alone, want := ahead[:len(ahead):len(ahead)], came[:len(ahead):len(ahead)]
		done := 0
		for i, line := range l[len(ahead):] {
			id, is := strings.CutPrefix(line, "commit ")
			at := len(ahead) + i
			if !is || !strings.HasPrefix(came[at], "ok ") || came[at] == "ok 0" {
				continue
			}
			done++
			alone, want = append(alone, "begin"), append(want, fmt.Sprint("ok ", done+1))
			for j, other := range l[:at] {
				if text, is := strings.CutPrefix(other, "exec "+id+" "); is && j >= len(ahead) {
					alone, want = append(alone, fmt.Sprint("exec ", done+1, " ", text)), append(want, came[j])
				}
			}
			alone, want = append(alone, fmt.Sprint("commit ", done+1)), append(want, came[at])
		}
		alone, want = append(alone, "tip"), append(want, came[len(l)])
		if got := answers(t, alone); !same(got, want) {
			t.Fatalf("P7: %s comes to %s, one by one %s to %s", show(l), show(want), show(alone), show(got))
		}
		if done > 1 {
			beside++
		}
	}
	if beside < 5 {
		t.Errorf("%d times several were committed", beside)
	}
}

// P8: behind a crash there is what was committed, and at most the block whose commit the power broke off.
func TestNotLost(t *testing.T) {
	var all []string
	for i := range 5 {
		all = append(all, "begin", fmt.Sprintf("exec %d %s", i+1, []string{"CREATE TABLE t", "INSERT INTO t {a: 1}", "UPDATE t SET a = 'x'", "INSERT INTO t {}", "DELETE FROM t"}[i]), fmt.Sprint("commit ", i+1))
	}
	tips := many(6, func(i int) string { return answers(t, append(all[:3*i:3*i], "tip"))[3*i] })
	for fuse := range 11 {
		for _, keep := range []int{0, 1, 50, 100, 150, 200, 300, most} {
			l := append([]string{fmt.Sprint("fuse ", fuse)}, all...)
			got := answers(t, append(l, fmt.Sprint("crash ", keep), "tip"))
			committed := 0
			for i := 3; i <= 15; i += 3 {
				if strings.HasPrefix(got[i], "ok") {
					committed++
				}
			}
			tip := got[len(got)-1]
			// Of the block that was broken off too few bytes were kept, or all.
			want := []string{tips[committed]}
			switch {
			case fuse < 10 && keep == most:
				want = []string{tips[committed+1]}
			case fuse < 10 && keep >= 100:
				want = append(want, tips[committed+1])
			}
			if committed != fuse/2 || !slices.Contains(want, tip) {
				t.Errorf("P8: fuse %d, %d kept: %s, %d were committed", fuse, keep, tip, committed)
			}
		}
	}
}

// P9: proofs are short.
func TestShortProofs(t *testing.T) {
	l := []string{"begin", "exec 1 CREATE TABLE t", "commit 1"}
	revs := []int{1}
	for i := 2; i < 16; i++ {
		l = append(l, "begin")
		for range i * 5 % 13 {
			l = append(l, fmt.Sprintf("exec %d INSERT INTO t {}", i))
		}
		l = append(l, fmt.Sprintf("exec %d CREATE TABLE t%d", i, i), fmt.Sprint("commit ", i))
		revs = append(revs, i*5%13+1)
	}
	n := len(l)
	for i, many := range revs {
		for j := range many {
			l = append(l, fmt.Sprintf("prove %d %d", i+1, j))
		}
	}
	for i, line := range answers(t, l)[n:] {
		parts := strings.Split(line, " ")
		var seq, index, digests int
		fmt.Sscanf(l[n+i], "prove %d %d", &seq, &index)
		fmt.Sscan(parts[len(parts)-1], &digests)
		if parts[0] != "ok" || digests > bits.Len(uint(len(revs)))+bits.Len(uint(revs[seq-1])) {
			t.Errorf("P9: %s: %s", l[n+i], line)
		}
	}
}
