package journal_test

import (
	"math/rand"
	"reflect"
	"runtime"
	"strings"
	"testing"

	"codicil/api"
	"codicil/journal"
)

func TestNewMemory(t *testing.T) {
	r := rand.New(rand.NewSource(63))
	for range 300 {
		b := anyBlock(r)
		made, _ := journal.Make(b.Seq, b.Prev, b.Statements, b.Revs)
		again, _ := journal.Make(b.Seq, b.Prev, b.Statements, b.Revs)
		apart(t, made, b, again)

		s, _ := journal.Text(b)
		other, _ := journal.Text(b)
		apart(t, s, b, other)
		read, _ := journal.Read(s)
		once, _ := journal.Read(s)
		apart(t, read, s, once)

		h, _ := journal.Short(b)
		same, _ := journal.Short(b)
		apart(t, h, b, same)
		apart(t, journal.HeadText(h), h, journal.HeadText(h))
		apart(t, journal.Digest(h), h, journal.Digest(h))

		f, _ := journal.Frame(b)
		g, _ := journal.Frame(b)
		apart(t, f, b, g)
		for _, r := range b.Revs {
			s, _ := journal.RevText(r)
			u, _ := journal.RevText(r)
			apart(t, s, r, u)
		}
	}
}

func TestScanNewMemory(t *testing.T) {
	s := strings.Join(framesOf(chain(t, 20)), "")
	l, _ := journal.Scan(s)
	again, _ := journal.Scan(s)
	if len(l) != 20 {
		t.Fatalf("%d blocks", len(l))
	}
	apart(t, l, s, again)
}

// What is handed in stays as it was, and what is answered does not hang on it any more.
func TestLeavesItsArguments(t *testing.T) {
	for seed := range int64(300) {
		b := anyBlock(rand.New(rand.NewSource(seed)))
		twin := anyBlock(rand.New(rand.NewSource(seed)))
		made, _ := journal.Make(b.Seq, b.Prev, b.Statements, b.Revs)
		journal.Check(b)
		journal.Text(b)
		journal.Short(b)
		journal.Frame(b)
		for _, r := range b.Revs {
			journal.RevText(r)
		}
		if !reflect.DeepEqual(b, twin) {
			t.Fatalf("%v became %v", twin, b)
		}
		spoil(b)
		if !same(made, twin) {
			t.Fatalf("%v became %v", twin, made)
		}
	}
}

// spoil changes all lists of a block where they lie.
func spoil(b api.Block) {
	for i := range b.Statements {
		b.Statements[i] = "spoiled"
	}
	for i := range b.Revs {
		spoilValue(b.Revs[i].Value)
		b.Revs[i].Table = "spoiled"
	}
}

func spoilValue(v api.Value) {
	for i := range v.List {
		spoilValue(v.List[i])
		v.List[i] = text("spoiled")
	}
	for i := range v.Fields {
		spoilValue(v.Fields[i].Value)
		v.Fields[i] = api.Field{Name: "spoiled"}
	}
}

// What was answered hangs on what was given alone, however often and between whatever it is asked.
func TestAnswersAlike(t *testing.T) {
	for _, b := range append(rightBlocks(), spoiled(blockFaults()[0])) {
		s, why := journal.Frame(b)
		journal.Make(b.Seq+1, b.Prev, b.Statements, b.Revs)
		journal.Scan("junk" + s)
		if u, no := journal.Frame(b); u != s || no != why {
			t.Errorf("Frame of %s: %x, error %d, then %x, error %d", show(b), s, why, u, no)
		}
	}
}

func TestLeavesNoGoroutine(t *testing.T) {
	before := runtime.NumGoroutine()
	for _, f := range blockFaults() {
		b := spoiled(f)
		journal.Make(b.Seq, b.Prev, b.Statements, b.Revs)
		journal.Frame(b)
	}
	for _, b := range rightBlocks() {
		f, _ := journal.Frame(b)
		journal.Scan(f + "junk")
		s, _ := journal.Text(b)
		journal.Read(s)
		h, _ := journal.Short(b)
		journal.Digest(h)
	}
	if now := runtime.NumGoroutine(); now > before {
		t.Errorf("%d goroutines, %d ahead", now, before)
	}
}
