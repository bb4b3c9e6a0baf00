package front_test

import (
	"fmt"
	"math"
	"strings"
	"testing"

	"codicil/api"
	"codicil/front"
)

// empty is the digest of no bytes: a tip's Root of no blocks.
const empty = "e3b0c44298fc1c149afbf4c8996fb92427ae41e4649b934ca495991b7852b855"

// The chapter's example.
func TestExample(t *testing.T) {
	text, why, at := front.Run(1000, "begin\nexec 1 CREATE TABLE t\ncommit 1\n")
	if text != "ok 1\nok 1\nok 1\n" || why != api.OK || at != 0 {
		t.Errorf("Run: %q, error %d, line %d", text, why, at)
	}
}

// 20.2: rooms that are no disk's come ahead of what is wrong in a script.
func TestRooms(t *testing.T) {
	for _, room := range []int{-1, math.MinInt, api.MaxDisk + 1, math.MaxInt} {
		for _, script := range []string{"", "tip\n", "none\n", xs(api.MaxScript + 1)} {
			if got := isRun(t, room, script); got != (run{Why: api.ErrState}) {
				t.Errorf("Run(%d, %s): %s", room, show(script), show(got))
			}
		}
	}
	for _, room := range []int{0, 1, 20, 1000, api.MaxDisk} {
		for script, want := range map[string]run{
			"":                            {},
			"tip\n":                       {Text: "ok 0 " + empty + "\n"},
			"tip\nnone\ntip":              {Why: api.ErrSyntax, At: 2},
			"tip":                         {Why: api.ErrSyntax, At: 1},
			xs(api.MaxScript + 1):         {Why: api.ErrLong},
			strings.Repeat("tip\n", 1025): {Why: api.ErrMany, At: 1025},
		} {
			if got := isRun(t, room, script); got != want {
				t.Errorf("Run(%d, %s): %s", room, show(script), show(got))
			}
		}
	}
}

// 20.2: rooms that are too small for a frame, and just great enough.
func TestSmallRooms(t *testing.T) {
	script := "begin\nexec 1 CREATE TABLE t\ncommit 1\ncommit 1\ntip\nbegin\n"
	least := 0
	for room := range 300 {
		got := isRun(t, room, script)
		if strings.HasPrefix(got.Text, "ok 1\nok 1\nok 1\nunknown\nok 1 ") {
			least = room
			break
		}
		if got.Text != "ok 1\nok 1\nfull\nunknown\nok 0 "+empty+"\nok 2\n" {
			t.Fatalf("a room of %d: %s", room, show(got))
		}
	}
	if least < 100 {
		t.Fatalf("%d bytes are room enough", least)
	}
	lines(t, least,
		"begin", "ok 1",
		"exec 1 CREATE TABLE t", "ok 1",
		"commit 1", "ok 1",
		"begin", "ok 2",
		"exec 2 CREATE TABLE u", "ok 1",
		"commit 2", "full",
		"begin", "ok 3",
		"exec 3 SELECT * FROM u", "name",
		"exec 3 SELECT * FROM t", "ok 0",
		"commit 3", "ok 0",
	)
}

// 20.2: begin, at once MaxSess of them, and one more.
func TestBegins(t *testing.T) {
	var l []string
	for i := range api.MaxSess {
		l = append(l, "begin", fmt.Sprint("ok ", i+1))
	}
	lines(t, 1000, append(l, "begin", "full", "abort 3", "ok", "begin", "ok 9", "begin", "full", "abort 3", "unknown", "commit 8", "ok 0", "begin", "ok 10", "fuse 0", "ok", "commit 1", "ok 0", "begin", "ok 11")...)
}

// 20.2: exec tells Count and the rows, or each of its errors.
func TestExecs(t *testing.T) {
	lines(t, 10000,
		"exec 1 SELECT * FROM t", "unknown",
		"begin", "ok 1",
		"exec 1 SELECT * FROM t", "name",
		"exec 1 CREATE TABLE t", "ok 1",
		"exec 1 CREATE TABLE t", "twice",
		"exec 1 CREATE INDEX ON t (a)", "ok 1",
		"exec 1 SELECT * FROM t", "ok 0",
		"exec 1 INSERT INTO t {a: 1, b: 'it''s'}", "ok 1",
		"exec 1 INSERT INTO t {a: 2, b: [NULL, TRUE, -7, {}, []]}", "ok 1",
		"exec 1 INSERT INTO t {a: 3}", "ok 1",
		"exec 1 SELECT * FROM t", `ok 0 {'a': 1, 'b': 'it\27s'} {'a': 2, 'b': [null, true, -7, {}, []]} {'a': 3}`,
		"exec 1 SELECT a AS x FROM t WHERE a > 1 ORDER BY x DESC", "ok 0 {'x': 3} {'x': 2}",
		"exec 1 SELECT a AS x FROM t WHERE a > 3", "ok 0",
		"exec 1 UPDATE t SET b = 'é' WHERE a < 3", "ok 2",
		"exec 1 UPDATE t SET b = 1 WHERE a = 9", "ok 0",
		"exec 1   SELECT  b AS b FROM t WHERE a = 1  ", `ok 0 {'b': '\c3\a9'}`,
		"exec 1 DELETE FROM t WHERE a = 3", "ok 1",
		"exec 1 ", "syntax",
		"exec 1 nothing", "syntax",
		"exec 1 commit 1", "syntax",
		"exec 1 INSERT INTO t 5", "type",
		"exec 1 SELECT a < 'x' AS x FROM t", "type",
		"exec 1 SELECT 9223372036854775807 + a AS x FROM t", "over",
		"exec 1 INSERT INTO t {a: '\xff'}", "utf",
		"exec 1 INSERT INTO t {a: 1, a: 2}", "twice",
		"exec 1 INSERT INTO t {a: "+strings.Repeat("(", 17)+"1"+strings.Repeat(")", 17)+"}", "depth",
		"exec 1 INSERT INTO t {a: 1"+strings.Repeat(" + 1", 100)+"}", "many",
		"exec 2 SELECT * FROM t", "unknown",
		"exec 0 SELECT * FROM t", "unknown",
		"exec 2147483647 nothing", "unknown",
		"exec 1 SELECT * FROM t", `ok 0 {'a': 1, 'b': '\c3\a9'} {'a': 2, 'b': '\c3\a9'}`,
	)
}

// 20.2: exec has MaxFuel, and no more.
func TestExecFuel(t *testing.T) {
	sum := strings.TrimSuffix(strings.Repeat("a+", 60), "+")
	items := func(n int) string {
		return strings.Join(many(n, func(i int) string { return fmt.Sprintf("%s AS n%d", sum, i) }), ", ")
	}
	l := []string{"begin", "ok 1", "exec 1 CREATE TABLE t", "ok 1"}
	for i := range 60 {
		l = append(l, fmt.Sprintf("exec 1 INSERT INTO t {a: %d}", i), "ok 1")
	}
	l = append(l, "commit 1", "ok 1", "begin", "ok 2")
	for i := range 60 {
		l = append(l, fmt.Sprintf("exec 2 INSERT INTO t {a: %d}", i), "ok 1")
	}
	rows := strings.Join(many(120, func(i int) string { return fmt.Sprintf("{'n0': %d}", i%60*60) }), " ")
	lines(t, api.MaxDisk, append(l,
		"exec 2 SELECT "+items(1)+" FROM t", "ok 0 "+rows,
		"exec 2 SELECT "+items(7)+" FROM t", "fuel",
		"exec 2 SELECT * FROM t", "state",
		"commit 2", "state",
		"begin", "ok 3",
		"exec 3 SELECT "+items(7)+" FROM t WHERE a < 20", "ok 0 "+strings.Join(many(20, func(i int) string {
			return "{" + strings.Join(many(7, func(j int) string { return fmt.Sprintf("'n%d': %d", j, i*60) }), ", ") + "}"
		}), " "),
	)...)
}

// 20.2: commit and abort, with each of their errors.
func TestCommits(t *testing.T) {
	l := []string{
		"commit 1", "unknown",
		"abort 1", "unknown",
		"begin", "ok 1",
		"abort 1", "ok",
		"abort 1", "unknown",
		"begin", "ok 2",
		"commit 2", "ok 0",
		"begin", "ok 3",
		"exec 3 CREATE TABLE t", "ok 1",
		"commit 3", "ok 1",
		"commit 3", "unknown",
		"begin", "ok 4",
		"begin", "ok 5",
		"exec 4 INSERT INTO t {a: 1}", "ok 1",
		"exec 5 INSERT INTO t {a: 2}", "ok 1",
		"commit 5", "ok 2",
		"commit 4", "conflict",
		"commit 4", "unknown",
		"begin", "ok 6",
		"exec 6 SELECT * FROM t", "ok 0 {'a': 2}",
		"commit 6", "ok 0",
		"begin", "ok 7",
	}
	for range 17 {
		l = append(l, "exec 7 INSERT INTO t {}"+strings.Repeat(" ", 1000), "ok 1")
	}
	lines(t, api.MaxDisk, append(l, "commit 7", "long", "commit 7", "unknown", "abort 2147483647", "unknown", "commit 0", "unknown")...)
}

// 20.2: MaxBlocks blocks, and one more.
func TestMostBlocks(t *testing.T) {
	l := []string{"begin", "ok 1", "exec 1 CREATE TABLE t", "ok 1", "exec 1 INSERT INTO t {}", "ok 1", "commit 1", "ok 1"}
	for i := 2; i <= api.MaxBlocks; i++ {
		l = append(l, "begin", fmt.Sprint("ok ", i), fmt.Sprintf("exec %d UPDATE t SET a = %d", i, i), "ok 1", fmt.Sprint("commit ", i), fmt.Sprint("ok ", i))
	}
	l = append(l, "begin", "ok 257", "exec 257 UPDATE t SET a = 0", "ok 1", "commit 257", "full", "prove 256 0", "ok 1 255 {'a': 256} 8", "prove 257 0", "range", "crash 0", "ok", "prove 1 1", "ok 1 0 {} 9")
	var script, want strings.Builder
	for i := 0; i < len(l); i += 2 {
		script.WriteString(l[i] + "\n")
		want.WriteString(l[i+1] + "\n")
	}
	// So many blocks take their time: what is said of them is written out, not asked for.
	if text, why, at := front.Run(api.MaxDisk, script.String()); text != want.String() || why != api.OK || at != 0 {
		t.Errorf("Run: %s, error %d, line %d", show(text), why, at)
	}
}

// 20.2: the power goes at the write, at the sync, behind both; what is kept.
func TestFuses(t *testing.T) {
	ahead := []string{"begin", "ok 1", "exec 1 CREATE TABLE t", "ok 1", "commit 1", "ok 1", "begin", "ok 2", "begin", "ok 3", "exec 2 INSERT INTO t {a: 1}", "ok 1"}
	for fuse, keeps := range [][]string{{"0", "10", "2147483647"}, {"0", "10", "2147483647"}, {"0", "10", "2147483647"}} {
		for i, keep := range keeps {
			l := append(ahead[:len(ahead):len(ahead)], fmt.Sprint("fuse ", fuse), "ok")
			if fuse < 2 {
				l = append(l, "commit 2", "down", "begin", "state", "exec 3 SELECT * FROM t", "state", "exec 9 nothing", "state", "commit 2", "state", "commit 9", "state", "abort 3", "state", "prove 1 0", "ok 0 0 null 0", "prove 2 0", "range", "fuse 0", "ok", "commit 3", "state")
			} else {
				l = append(l, "commit 2", "ok 2", "exec 3 SELECT * FROM t", "ok 0", "prove 2 0", "ok 1 0 {'a': 1} 1")
			}
			rows := "ok 0"
			if fuse == 2 || i == 2 {
				rows = "ok 0 {'a': 1}"
			}
			l = append(l, "crash "+keep, "ok", "exec 3 SELECT * FROM t", "unknown", "begin", "ok 1", "exec 1 SELECT * FROM t", rows, "crash 0", "ok", "begin", "ok 1", "exec 1 SELECT * FROM t", rows)
			// Behind a crash the power stays.
			l = append(l, "exec 1 CREATE TABLE u", "ok 1")
			if rows == "ok 0" {
				l = append(l, "commit 1", "ok 2")
			} else {
				l = append(l, "commit 1", "ok 3")
			}
			lines(t, 10000, l...)
		}
	}
	lines(t, 1000, "fuse 2147483647", "ok", "crash 2147483647", "ok", "fuse 0", "ok", "begin", "ok 1", "commit 1", "ok 0", "tip", "ok 0 "+empty)
}

// 20.2: tips and proofs, of ordinary revisions and of addresses that are none.
func TestTipsAndProofs(t *testing.T) {
	script := "tip\nbegin\nexec 1 CREATE TABLE t\nexec 1 CREATE INDEX ON t (a)\nexec 1 INSERT INTO t {a: 1}\ncommit 1\ntip\nbegin\nexec 2 UPDATE t SET a = 'x'\ntip\ncommit 2\ntip\n"
	got := strings.Split(isRun(t, 10000, script).Text, "\n")
	if got[0] != "ok 0 "+empty || len(got[6]) != len("ok 1 ")+64 || got[6] != got[9] || !strings.HasPrefix(got[11], "ok 2 ") || got[11][5:] == got[6][5:] {
		t.Errorf("tips: %q", got)
	}
	lines(t, 10000,
		"prove 1 0", "range",
		"prove 0 0", "range",
		"begin", "ok 1",
		"exec 1 CREATE TABLE t", "ok 1",
		"exec 1 CREATE INDEX ON t (a)", "ok 1",
		"exec 1 INSERT INTO t {a: 1, b: 'it''s'}", "ok 1",
		"prove 1 0", "range",
		"commit 1", "ok 1",
		"prove 1 0", "ok 0 0 null 2",
		"prove 1 1", "ok 0 0 'a' 2",
		"prove 1 2", `ok 1 0 {'a': 1, 'b': 'it\27s'} 1`,
		"prove 1 3", "range",
		"prove 0 0", "range",
		"prove 2 0", "range",
		"prove 1 2147483647", "range",
		"prove 2147483647 0", "range",
		"begin", "ok 2",
		"exec 2 UPDATE t SET b = 2", "ok 1",
		"commit 2", "ok 2",
		"begin", "ok 3",
		"exec 3 DELETE FROM t", "ok 1",
		"commit 3", "ok 3",
		"prove 1 2", `ok 1 0 {'a': 1, 'b': 'it\27s'} 3`,
		"prove 2 0", "ok 1 1 {'a': 1, 'b': 2} 2",
		"prove 3 0", "ok 1 2 null 1",
		"prove 3 1", "range",
	)
}

// 20.6: a run has a line for each order; of a script and more the first lines are the script's own.
func TestMoreOfAScript(t *testing.T) {
	script := "begin\nexec 1 CREATE TABLE t\nexec 1 INSERT INTO t {a: '\n'}\n"
	if got := isRun(t, 1000, script); got.Why != api.ErrSyntax || got.At != 4 {
		t.Errorf("a LF within a statement: %s", show(got))
	}
	script = "begin\nexec 1 CREATE TABLE t\nexec 1 INSERT INTO t {a: '\x01\r'}\nexec 1 SELECT * FROM t\ncommit 1\ntip\nprove 1 1\nfuse 1\nbegin\nexec 2 DELETE FROM t\ncommit 2\nbegin\ncrash 9\nbegin\nexec 1 SELECT * FROM t\ntip\n"
	l := strings.SplitAfter(script, "\n")
	ahead := ""
	for i := range l {
		got := isRun(t, 1000, strings.Join(l[:i], ""))
		if strings.Count(got.Text, "\n") != i || !strings.HasPrefix(got.Text, ahead) {
			t.Errorf("20.6: %d lines: %s behind %s", i, show(got), show(ahead))
		}
		ahead = got.Text
	}
}
