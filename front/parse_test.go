package front_test

import (
	"fmt"
	"strings"
	"testing"

	"codicil/api"
	"codicil/front"
)

// refused fails, unless a line is none, first or behind others; it stands with its LF, or without.
func refused(t *testing.T, line string) {
	t.Helper()
	for ahead, script := range []string{line, "tip\n" + line, "begin\nexec 1 x\n" + line, "tip\ntip\ntip\n" + line + "tip\n"} {
		if got := isRead(t, script); !same(got, read{Why: api.ErrSyntax, At: ahead + 1}) {
			t.Errorf("Parse(%s): %s, not line %d", show(script), show(got), ahead+1)
		}
	}
}

// taken fails, unless a line is that of an order, first or behind others.
func taken(t *testing.T, line string, o api.Order) {
	t.Helper()
	tip := api.Order{Kind: api.OrderTip}
	for _, x := range []struct {
		script string
		want   []api.Order
	}{{line, []api.Order{o}}, {"tip\n" + line, []api.Order{tip, o}}, {line + "tip\n", []api.Order{o, tip}}} {
		if got := isRead(t, x.script); !same(got, read{Orders: x.want}) {
			t.Errorf("Parse(%s): %s, not %s", show(x.script), show(got), show(x.want))
		}
		if got := isPrinted(t, x.want); got != (print{Text: x.script}) {
			t.Errorf("Print(%s): %s", show(x.want), show(got))
		}
	}
}

// withNumber are the words behind which one number stands, and then perhaps more.
var withNumber = []struct {
	kind api.OrderKind
	word string
	more string
}{
	{api.OrderExec, "exec", " text"},
	{api.OrderCommit, "commit", ""},
	{api.OrderAbort, "abort", ""},
	{api.OrderFuse, "fuse", ""},
	{api.OrderCrash, "crash", ""},
	{api.OrderProve, "prove", " 7"},
}

// 20.1: each kind of line, its numbers being at their edges.
func TestLines(t *testing.T) {
	taken(t, "begin\n", api.Order{Kind: api.OrderBegin})
	taken(t, "tip\n", api.Order{Kind: api.OrderTip})
	for _, n := range []int{0, 1, 9, 10, 99, 100, 1 << 30, most - 1, most} {
		for _, x := range withNumber {
			o := api.Order{Kind: x.kind, Id: n, Text: strings.TrimSpace(x.more)}
			if x.kind == api.OrderProve {
				o.Index, o.Text = 7, ""
			}
			taken(t, fmt.Sprintf("%s %d%s\n", x.word, n, x.more), o)
		}
		for _, m := range []int{0, 5, most} {
			taken(t, fmt.Sprintf("prove %d %d\n", m, n), api.Order{Kind: api.OrderProve, Id: m, Index: n})
		}
	}
}

// noNumbers are such as none is.
var noNumbers = []string{
	"", " ", "  ", "00", "01", "007", "000", "2147483648", "2147483650", "3000000000", "4294967296", "4294967297", "9223372036854775807", "9223372036854775808", "18446744073709551616", "18446744073709551617",
	"99999999999999999999999999999999999999", "-1", "-0", "+0", "+1", "--1", " 1", "1 ", "1.", "1.0", "1e3", "0x1", "0b1", "0o7", "1_0", "x", "1x", "x1", "'1'", "\t1", "1\t", "1\r", "\x001", "1\x00", "\u0661", "\uff11", "\xff", "null", "NaN",
}

// 20.1: numbers that are none.
func TestNoNumbers(t *testing.T) {
	for _, n := range noNumbers {
		for _, x := range withNumber {
			// A blank behind a number is a text's beginning.
			if x.kind == api.OrderExec && n == "1 " {
				continue
			}
			refused(t, x.word+" "+n+x.more+"\n")
		}
		refused(t, "prove 1 "+n+"\n")
		refused(t, "prove "+n+" "+n+"\n")
	}
}

// 20.1: lines that lack something, or have something behind them.
func TestNoLines(t *testing.T) {
	for _, line := range []string{
		"\n", " \n", "  \n", "\r\n", "\t\n", "\x00\n", "\xff\n",
		"begin \n", "begin 1\n", "begin\r\n", " begin\n", "begin begin\n", "beginn\n", "begi\n", "b\n", "begin\x00\n", "begin\t\n",
		"tip \n", "tip 1\n", "tip\r\n", " tip\n", "tips\n", "ti\n",
		"exec\n", "exec \n", "exec 1\n", "exec1 x\n", "exec  1 x\n", "exec x 1\n", " exec 1 x\n", "exec\t1 x\n", "exec 1\tx\n", "exec1\n",
		"commit\n", "commit \n", "commit 1 \n", "commit 1 2\n", "commit 1x\n", "commit1\n", "commit  1\n", " commit 1\n", "commit 1\r\n",
		"abort\n", "abort \n", "abort 1 \n", "abort 1 2\n", "abort1\n", "abort  1\n",
		"fuse\n", "fuse \n", "fuse 1 \n", "fuse 1 2\n", "fuse -1\n", "fuse1\n",
		"crash\n", "crash \n", "crash 1 \n", "crash 1 2\n", "crash1\n",
		"prove\n", "prove \n", "prove 1\n", "prove 1 \n", "prove  1\n", "prove 1  2\n", "prove 1 2 \n", "prove 1 2 3\n", "prove 1 2x\n", "prove12\n",
		"none\n", "select 1 x\n", "?\n", "ok\n", "open 1\n", "sync\n", "1\n", "#\n", "// begin\n",
	} {
		refused(t, line)
	}
}

// 20.1: words with other cases of letters.
func TestOtherCases(t *testing.T) {
	for _, line := range []string{"begin\n", "exec 1 x\n", "commit 1\n", "abort 1\n", "fuse 1\n", "crash 1\n", "tip\n", "prove 1 1\n"} {
		word, more, _ := strings.Cut(line, " ")
		if more != "" {
			more = " " + more
		}
		refused(t, strings.ToUpper(word)+more)
		refused(t, strings.ToUpper(word[:1])+word[1:]+more)
		refused(t, word[:1]+strings.ToUpper(word[1:2])+word[2:]+more)
	}
	refused(t, "bégin\n")
	refused(t, "fuſe 1\n") // a letter that is an s in great letters
}

// 20.1: a line without its LF is none.
func TestNoEnd(t *testing.T) {
	for _, line := range []string{"begin", "exec 1 x", "exec 1 ", "commit 1", "abort 1", "fuse 1", "crash 1", "tip", "prove 1 1", " ", "b", "\x00"} {
		for ahead, script := range []string{line, "tip\n" + line, "tip\ntip\n" + line} {
			if got := isRead(t, script); !same(got, read{Why: api.ErrSyntax, At: ahead + 1}) {
				t.Errorf("Parse(%s): %s", show(script), show(got))
			}
		}
	}
	if got := isRead(t, ""); !same(got, read{}) {
		t.Errorf("a script of nothing: %s", show(got))
	}
}

// 20.1: texts are all up to the LF, whatever bytes.
func TestTexts(t *testing.T) {
	texts := []string{"", " ", "  ", "x", " x", "x ", "  x  ", "1", "1 2", "\t", "\r", "x\r", "\x00", "é", "\xff", "\xc3", "\xed\xa0\x80", "SELECT * FROM t", "exec 1 x", "'", `\n`, "\u2028", "\v\f", xs(api.MaxText - 1), xs(api.MaxText), strings.Repeat(" ", api.MaxText), strings.Repeat("\xff", api.MaxText)}
	for b := range 256 {
		if b != '\n' {
			texts = append(texts, string([]byte{byte(b)}), "x"+string([]byte{byte(b)})+"y")
		}
	}
	for _, text := range texts {
		taken(t, "exec 3 "+text+"\n", api.Order{Kind: api.OrderExec, Id: 3, Text: text})
	}
	refused(t, "exec 3 "+xs(api.MaxText+1)+"\n")
	refused(t, "exec 3 "+strings.Repeat(" ", api.MaxText+1)+"\n")
	refused(t, "exec 3 "+strings.Repeat("\xff", api.MaxText+1)+"\n")
	refused(t, "exec 3 "+xs(1<<14)+"\n")
}

// script is one of n bytes, whose lines are exec ones but for the last, which may not be.
func script(n int) string {
	line := "exec 1 " + xs(api.MaxText) + "\n"
	out := strings.Repeat(line, n/len(line)-1)
	left := n - len(out)
	first := "exec 1 " + xs(left/2-8) + "\n"
	return out + first + "exec 1 " + xs(left-len(first)-8) + "\n"
}

// 20.1: scripts of MaxScript bytes, and one more; of MaxSteps lines, and one more; which error and which line is told.
func TestLimits(t *testing.T) {
	right := script(api.MaxScript)
	if len(right) != api.MaxScript {
		t.Fatalf("%d bytes", len(right))
	}
	steps := func(n int) string { return strings.Repeat("tip\n", n) }
	for _, x := range []struct {
		name   string
		script string
		why    api.Errno
		at     int
	}{
		{"MaxScript bytes", right, api.OK, 0},
		{"one less", script(api.MaxScript - 1), api.OK, 0},
		{"one more", script(api.MaxScript + 1), api.ErrLong, 0},
		{"one more, no LF", right + "x", api.ErrLong, 0},
		{"one more, its first line being none", "x" + right, api.ErrLong, 0},
		{"MaxScript bytes, the last line without its LF", right[:api.MaxScript-1] + "x", api.ErrSyntax, strings.Count(right, "\n")},
		{"MaxScript LFs", strings.Repeat("\n", api.MaxScript), api.ErrSyntax, 1},
		{"one more LF", strings.Repeat("\n", api.MaxScript+1), api.ErrLong, 0},
		{"a great many bytes", xs(1 << 22), api.ErrLong, 0},
		{"more lines and bytes than may be", strings.Repeat("tip\n", 1<<16), api.ErrLong, 0},
		{"MaxScript bytes, more lines than may be", strings.Repeat("tip\n", api.MaxScript/4), api.ErrMany, 1025},
		{"one line less", steps(1023), api.OK, 0},
		{"MaxSteps lines", steps(1024), api.OK, 0},
		{"one line more", steps(1025), api.ErrMany, 1025},
		{"many lines more", steps(5000), api.ErrMany, 1025},
		{"one more that is none", steps(1024) + "none\n", api.ErrSyntax, 1025},
		{"one more without its LF", steps(1024) + "tip", api.ErrSyntax, 1025},
		{"one more that is empty", steps(1024) + "\n", api.ErrSyntax, 1025},
		{"the last one is none", steps(1023) + "none\n", api.ErrSyntax, 1024},
		{"the last one is none, with more behind", steps(1023) + "none\n" + steps(9), api.ErrSyntax, 1024},
		{"one more, and behind it one that is none", steps(1025) + "none\n", api.ErrMany, 1025},
		{"one more, and behind it one without its LF", steps(1025) + "tip", api.ErrMany, 1025},
		{"several that are none", "tip\nnone\ntip\nnone\n" + steps(2000), api.ErrSyntax, 2},
	} {
		got := isRead(t, x.script)
		if got.Why != x.why || got.At != x.at || x.why != api.OK && len(got.Orders) != 0 {
			t.Errorf("%s: error %d, line %d", x.name, got.Why, got.At)
		}
		if x.why == api.OK && len(got.Orders) != strings.Count(x.script, "\n") {
			t.Errorf("%s: %d orders", x.name, len(got.Orders))
		}
		if got := isRun(t, 0, x.script[:min(len(x.script), 2*api.MaxScript)]); x.why != api.OK && got != (run{Why: x.why, At: x.at}) {
			t.Errorf("%s: Run: %s", x.name, show(got))
		}
	}
}

// orders are right ones, of each kind, with their fields at their edges.
func orders() []api.Order {
	out := []api.Order{{Kind: api.OrderBegin}, {Kind: api.OrderTip}}
	for _, n := range []int{0, 1, most - 1, most} {
		for _, x := range withNumber {
			out = append(out, api.Order{Kind: x.kind, Id: n})
		}
		out = append(out, api.Order{Kind: api.OrderProve, Id: 1, Index: n}, api.Order{Kind: api.OrderExec, Id: n, Text: "x"})
	}
	for _, text := range []string{" ", "\xff", "\r", xs(api.MaxText)} {
		out = append(out, api.Order{Kind: api.OrderExec, Id: 2, Text: text})
	}
	return out
}

// 20.1: orders that are not right in each of their fields, by kind.
func TestOrdersThatAreNotRight(t *testing.T) {
	noneRight := func(name string, o api.Order) {
		t.Helper()
		tip := api.Order{Kind: api.OrderTip}
		for _, l := range [][]api.Order{{o}, {tip, o}, {o, tip}, {tip, o, tip, {}}} {
			if got := isPrinted(t, l); got != (print{Why: api.ErrSyntax}) {
				t.Errorf("%s: Print(%s): %s", name, show(l), show(got))
			}
		}
	}
	for _, kind := range []api.OrderKind{api.OrderNone, api.OrderCount, api.OrderCount + 1, 255} {
		noneRight("a Kind that is none", api.Order{Kind: kind})
		noneRight("a Kind that is none", api.Order{Kind: kind, Id: 1, Index: 1, Text: "x"})
	}
	for _, o := range orders() {
		for _, n := range []int{-1, most + 1, -1 << 31, -1 << 63, 1<<63 - 1, 1 << 32} {
			x := o
			x.Id = n
			noneRight("an Id", x)
			x = o
			x.Index = n
			noneRight("an Index", x)
		}
		if o.Kind != api.OrderExec {
			for _, text := range []string{"x", " ", "\n", "\xff"} {
				x := o
				x.Text = text
				noneRight("a Text", x)
			}
		} else {
			for _, text := range []string{"\n", "x\n", "\nx", "x\ny", xs(api.MaxText + 1), xs(api.MaxText-1) + "\n", "x\r\n"} {
				x := o
				x.Text = text
				noneRight("a Text", x)
			}
		}
		for _, n := range []int{1, 2, most} {
			x := o
			x.Index = n
			if o.Kind != api.OrderProve {
				noneRight("an Index", x)
			}
			x = o
			x.Id = n
			if o.Kind == api.OrderBegin || o.Kind == api.OrderTip {
				noneRight("an Id", x)
			}
		}
	}
}

// 20.1: how many orders and bytes may be printed.
func TestPrintLimits(t *testing.T) {
	tips := func(n int) []api.Order { return many(n, func(int) api.Order { return api.Order{Kind: api.OrderTip} }) }
	execs := func(n int) []api.Order {
		l := isRead(t, script(api.MaxScript)).Orders
		if n > api.MaxScript {
			l[len(l)-1].Text += xs(n - api.MaxScript)
		}
		return l
	}
	wrong := append(execs(api.MaxScript+1), api.Order{})
	for _, x := range []struct {
		name string
		l    []api.Order
		why  api.Errno
	}{
		{"none", nil, api.OK},
		{"an empty list", []api.Order{}, api.OK},
		{"MaxSteps", tips(1024), api.OK},
		{"one more", tips(1025), api.ErrSyntax},
		{"one more, not right", append(tips(1024), api.Order{}), api.ErrSyntax},
		{"a great many", tips(1 << 20), api.ErrSyntax},
		{"MaxScript bytes", execs(api.MaxScript), api.OK},
		{"one byte more", execs(api.MaxScript + 1), api.ErrLong},
		{"one byte more, not right", wrong, api.ErrSyntax},
		{"more bytes and orders than may be", many(1025, func(int) api.Order { return api.Order{Kind: api.OrderExec, Text: xs(1000)} }), api.ErrSyntax},
		{"many more bytes", many(1024, func(int) api.Order { return api.Order{Kind: api.OrderExec, Text: xs(1024)} }), api.ErrLong},
	} {
		if x.name == "a great many" {
			if s, why := front.Print(x.l); s != "" || why != x.why {
				t.Errorf("%s: %s, error %d", x.name, show(s), why)
			}
			continue
		}
		got := isPrinted(t, x.l)
		if got.Why != x.why {
			t.Errorf("%s: error %d", x.name, got.Why)
		}
		if x.why == api.OK && !same(isRead(t, got.Text), read{Orders: x.l}) {
			t.Errorf("20.4: %s", x.name)
		}
	}
}

// 20.4, P5: what is printed is read again as what it was.
func TestThereAndBack(t *testing.T) {
	l := orders()
	for i := range l {
		text, why := front.Print(l[i:])
		got, no, at := front.Parse(text)
		if why != api.OK || no != api.OK || at != 0 || !same(got, l[i:]) {
			t.Fatalf("20.4: %s, errors %d, %d", show(got), why, no)
		}
	}
}
