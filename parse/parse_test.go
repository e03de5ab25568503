package parse

import (
	"fmt"
	"slices"
	"strings"
	"sync"
	"testing"
	"unsafe"

	"transposal/api"
	"transposal/calendar"
	"transposal/day"
	"transposal/lex"
	"transposal/script"
)

// told: all that stands in ops, their places too, as one text.
func told(l []script.Op) string {
	s := ""
	for _, o := range l {
		s += fmt.Sprintf("%d %d %d %q %v %v %d at %d\n", o.Kind, o.From, o.To, o.Name, o.Parts, o.Calendar.Starts, o.Calendar.End, o.At)
	}
	return s
}

// parsed: what Parse answers of a text that lies within other bytes, which stay as they were; when they change, the ops stay as they are; once more is the same.
func parsed(t *testing.T, s string) (ops []script.Op, at int, e api.Errno) {
	t.Helper()
	around := []byte("merge 1 into " + s + ";9\"to,;")
	was := slices.Clone(around)
	within := unsafe.String(&around[13], len(s))
	ops, at, e = Parse(within)
	again, atAgain, eAgain := Parse(within)
	if !slices.Equal(around, was) {
		t.Fatalf("Parse of %.300q changed it", s)
	}
	before := told(ops)
	clear(around)
	if told(ops) != before {
		t.Fatalf("the ops of %.300q share its memory", s)
	}
	if told(again) != before || atAgain != at || eAgain != e {
		t.Fatalf("Parse of %.300q, once more: error %d at %d, not error %d at %d, %.500v, not %.500v", s, eAgain, atAgain, e, at, again, ops)
	}
	return ops, at, e
}

// holdOps: a text has just these ops, at their places.
func holdOps(t *testing.T, s string, want ...script.Op) {
	t.Helper()
	ops, at, e := parsed(t, s)
	if e != api.OK || at != 0 {
		t.Fatalf("Parse of %.300q: error %d at %d", s, e, at)
	}
	if got, want := told(ops), told(want); got != want {
		t.Fatalf("Parse of %.300q: %.500s, not %.500s", s, got, want)
	}
}

// holdError: a text goes wrong at a place, and has no ops.
func holdError(t *testing.T, s string, at int, e api.Errno) {
	t.Helper()
	ops, gotAt, gotE := parsed(t, s)
	if gotE != e || gotAt != at || len(ops) != 0 {
		t.Fatalf("Parse of %.300q: error %d at %d, not error %d at %d, with %d ops", s, gotE, gotAt, e, at, len(ops))
	}
}

// holdWrong: texts go wrong where their mark ^ stands (which isn't part of them).
func holdWrong(t *testing.T, e api.Errno, marked ...string) {
	t.Helper()
	for _, m := range marked {
		ahead, behind, ok := strings.Cut(m, "^")
		if !ok {
			t.Fatalf("no mark in %q", m)
		}
		holdError(t, ahead+behind, len(ahead), e)
	}
}

// placed: an op at another place.
func placed(o script.Op, at int) script.Op {
	o.At = at
	return o
}

// sample is an op, and a text of it.
type sample struct {
	text string
	op   script.Op
}

// samples: of each kind one or more, with its text as it is told, and as it may be written, too.
func samples() []sample {
	return []sample{
		{"renumber 1 to 2;", script.Op{Kind: script.Renumber, From: 1, To: 2}},
		{"renumber3to3;", script.Op{Kind: script.Renumber, From: 3, To: 3}},
		{"renumber 999999 to 999998;", script.Op{Kind: script.Renumber, From: 999999, To: 999998}},
		{`rename 5 "Cash in bank";`, script.Op{Kind: script.Rename, From: 5, Name: "Cash in bank"}},
		{`rename 999999 "";`, script.Op{Kind: script.Rename, From: 999999}},
		{`rename1"a";`, script.Op{Kind: script.Rename, From: 1, Name: "a"}},
		{"reparent 7 under 8;", script.Op{Kind: script.Reparent, From: 7, To: 8}},
		{"reparent 7 under 0;", script.Op{Kind: script.Reparent, From: 7}},
		{"reparent 999999\nunder\n999999 ;", script.Op{Kind: script.Reparent, From: 999999, To: 999999}},
		{"merge 12 into 13;", script.Op{Kind: script.Merge, From: 12, To: 13}},
		{"merge 1000 # a note; merge 1 into 2;\ninto 999999;", script.Op{Kind: script.Merge, From: 1000, To: 999999}},
		{"split 1 into 2 3;", script.Op{Kind: script.Split, From: 1, Parts: []script.Part{{Code: 2, Weight: 3}}}},
		{"split 1 into 2 3, 4 1;", script.Op{Kind: script.Split, From: 1, Parts: []script.Part{{Code: 2, Weight: 3}, {Code: 4, Weight: 1}}}},
		{"split 9 into 9 1000000,9 1,999999\n1000000 , 1 # one\n1;", script.Op{Kind: script.Split, From: 9,
			Parts: []script.Part{{Code: 9, Weight: 1000000}, {Code: 9, Weight: 1}, {Code: 999999, Weight: 1000000}, {Code: 1, Weight: 1}}}},
		{"recode 1 to 2;", script.Op{Kind: script.Recode, From: 1, To: 2}},
		{"recode 999 to 998;", script.Op{Kind: script.Recode, From: 999, To: 998}},
		{"join 3 into 4;", script.Op{Kind: script.Join, From: 3, To: 4}},
		{"join 1 into 999;", script.Op{Kind: script.Join, From: 1, To: 999}},
		{"calendar until 1970-01-02;", script.Op{Kind: script.Periods, Calendar: calendar.Calendar{End: 1}}},
		{"calendar 1970-01-01 until 1970-02-01;", script.Op{Kind: script.Periods, Calendar: calendar.Calendar{Starts: []day.Day{0}, End: 31}}},
		{"calendar 1970-02-01\n0001-01-01 # a note\n9999-12-31 9999-12-31until0001-01-01;", script.Op{Kind: script.Periods,
			Calendar: calendar.Calendar{Starts: []day.Day{31, -719162, 2932896, 2932896}, End: -719162}}},
	}
}

// gaps: what may stand between tokens, or not.
func gaps() []string {
	return []string{"", " ", "\n", "  \n\n ", "# a note\n", "#\n", " # merge 1 into 2;\n ", "#A 007 1- \"\n", "# one\n# two\n\n"}
}

func TestP14_1Example(t *testing.T) {
	holdOps(t, "renumber 1 to 2;", script.Op{Kind: script.Renumber, From: 1, To: 2})
}

// Texts without a token have no ops.
func TestP14_1NoOps(t *testing.T) {
	for _, s := range []string{"", " ", "\n", "   ", "\n\n\n", " \n \n", "#", "#\n", "# a note", "# a note\n", "# one\n# two", "\n # merge 1 into 2;", "#A 007 1- \"", "# \xff\x00\té"} {
		holdOps(t, s)
		for _, gap := range gaps() {
			holdOps(t, gap+s)
			holdOps(t, s+"\n"+gap)
		}
	}
	holdOps(t, strings.Repeat(" ", api.MaxText))
	holdOps(t, strings.Repeat("#", api.MaxText))
}

// Each sample alone, and behind and ahead of each gap.
func TestP14_1EachKind(t *testing.T) {
	seen := map[script.Kind]bool{}
	for _, x := range samples() {
		seen[x.op.Kind] = true
		holdOps(t, x.text, x.op)
		for _, gap := range gaps() {
			holdOps(t, x.text+gap, x.op)
			holdOps(t, gap+x.text, placed(x.op, len(gap)))
			holdOps(t, gap+x.text+gap, placed(x.op, len(gap)))
		}
	}
	if len(seen) != int(script.Kinds) {
		t.Errorf("there is none of some kind: %v", seen)
	}
}

// Each sample behind each other one: on its line, and on a later one.
func TestP14_1Pairs(t *testing.T) {
	for _, a := range samples() {
		for _, b := range samples() {
			for _, gap := range gaps() {
				holdOps(t, a.text+gap+b.text, a.op, placed(b.op, len(a.text+gap)))
			}
		}
	}
}

// All samples in one text, often over.
func TestP14_1Many(t *testing.T) {
	for _, gap := range gaps() {
		for _, many := range []int{1, 2, 4} {
			s := ""
			var want []script.Op
			for range many {
				for _, x := range samples() {
					s += gap
					want = append(want, placed(x.op, len(s)))
					s += x.text
				}
			}
			holdOps(t, s, want...)
		}
	}
}

// Gaps may stand between all tokens, each of them in its place.
func TestP14_1GapsWithin(t *testing.T) {
	for _, x := range samples() {
		all, _, _ := lex.Split(x.text)
		for _, gap := range gaps()[1:] {
			s := ""
			for i, k := range all[:len(all)-1] {
				s += gap + x.text[k.At:all[i+1].At]
			}
			holdOps(t, s, placed(x.op, len(gap)))
		}
	}
}

// A name is what stands in quotes, byte by byte.
func TestP14_1Names(t *testing.T) {
	names := []string{"", " ", "  ", "a", " a ", "Cash", "to", "merge", ";", ",", "; merge 1 into 2;", "#", "# no note", "7", "007", "12345678", "-", "1-", "2000-02-29", "2023-02-29",
		`\`, `\n`, "'", "\t", "\r", "\x00", "%d", "é", "現金", "\xff", "a\xc3", strings.Repeat("a", api.MaxName+1), strings.Repeat("a ", 10000)}
	for b := range 256 {
		if b != '"' && b != '\n' {
			names = append(names, string([]byte{byte(b)}), "a"+string([]byte{byte(b)})+"b")
		}
	}
	for _, name := range names {
		holdOps(t, `rename 5 "`+name+`";`, script.Op{Kind: script.Rename, From: 5, Name: name})
		holdOps(t, ` rename 5"`+name+`";rename 6 "b";`,
			script.Op{Kind: script.Rename, From: 5, Name: name, At: 1},
			script.Op{Kind: script.Rename, From: 6, Name: "b", At: len(name) + 12})
	}
}

// A calendar's days are as they stand: none, one, many, rising or not.
func TestP14_1Calendars(t *testing.T) {
	list := func(l ...day.Day) string {
		s := "calendar"
		for _, d := range l {
			s += " " + d.Text()
		}
		return s
	}
	days := []day.Day{-719162, -719161, -1, 0, 1, 30, 31, 11016, 2932895, 2932896}
	for _, end := range days {
		hold := func(l ...day.Day) {
			t.Helper()
			holdOps(t, list(l...)+" until "+end.Text()+";", script.Op{Kind: script.Periods, Calendar: calendar.Calendar{Starts: l, End: end}})
		}
		hold()
		for _, a := range days {
			hold(a)
			for _, b := range days {
				hold(a, b)
				hold(a, b, a)
			}
		}
		for _, many := range []int{api.MaxPeriods - 1, api.MaxPeriods, api.MaxPeriods + 1, 255, 256, 257, 5000} {
			var l []day.Day
			for i := range many {
				l = append(l, days[i*i%len(days)])
			}
			hold(l...)
		}
	}
}

// As many bytes as may be are read.
func TestP14_1Long(t *testing.T) {
	merge := script.Op{Kind: script.Merge, From: 1, To: 2}
	const s = "merge 1 into 2;"
	holdOps(t, s+strings.Repeat(" ", api.MaxText-len(s)), merge)
	holdOps(t, strings.Repeat("\n", api.MaxText-len(s))+s, placed(merge, api.MaxText-len(s)))
	name := strings.Repeat("a", api.MaxText-len(`rename 1 "";`))
	holdOps(t, `rename 1 "`+name+`";`, script.Op{Kind: script.Rename, From: 1, Name: name})
	holdError(t, s+strings.Repeat(" ", api.MaxText-len(s)+1), 0, api.ErrSize)
	holdError(t, `rename 1 "`+name+`a";`, 0, api.ErrSize)
}

// No two lists of an answer share memory, nor do two answers.
func TestP14_1Memory(t *testing.T) {
	const s = "split 1 into 2 3, 4 5, 6 7;split 8 into 9 10;calendar 1970-01-01 1970-01-02 1970-01-03 until 1970-01-09;calendar 1970-01-04 until 1970-01-05;"
	ops, _, _ := Parse(s)
	other, _, _ := Parse(s)
	want := told(ops)
	for i := range ops {
		// What stands behind a list must not be another one's.
		_ = append(ops[i].Parts, script.Part{Code: 77, Weight: 77}, script.Part{Code: 78, Weight: 78})
		_ = append(ops[i].Calendar.Starts, 77, 78, 79)
	}
	_ = append(ops, script.Op{}, script.Op{})
	if told(ops) != want || told(other) != want {
		t.Errorf("lists share their room: %s %s", told(ops), told(other))
	}
	for i := range ops {
		clear(ops[i].Parts)
		clear(ops[i].Calendar.Starts)
	}
	clear(ops)
	if told(other) != want {
		t.Errorf("answers share their memory: %s", told(other))
	}
	if again, _, _ := Parse(s); told(again) != want {
		t.Errorf("once more: %s", told(again))
	}
}

// Many at the same time: each has its own answer.
func TestP14_1AtTheSameTime(t *testing.T) {
	var group sync.WaitGroup
	for i, x := range samples() {
		group.Go(func() {
			for range 200 {
				s := strings.Repeat(" ", i) + x.text
				if ops, at, e := Parse(s); e != api.OK || at != 0 || told(ops) != told([]script.Op{placed(x.op, i)}) {
					t.Errorf("Parse of %q: error %d at %d, %v", s, e, at, ops)
				}
				if ops, at, e := Parse(s + "to"); e != api.ErrWord || at != len(s) || len(ops) != 0 {
					t.Errorf("Parse of %q: error %d at %d, %v", s+"to", e, at, ops)
				}
			}
		})
	}
	group.Wait()
}
