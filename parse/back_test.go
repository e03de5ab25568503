package parse

import (
	"math/rand"
	"slices"
	"strings"
	"testing"

	"transposal/api"
	"transposal/calendar"
	"transposal/day"
	"transposal/script"
)

// holdBack: what Print tells of ops is parsed as they, each at the beginning of its line, and told as it was; the ops stay as they are.
func holdBack(t *testing.T, l []script.Op) {
	t.Helper()
	was := told(l)
	s := script.Print(l)
	want := slices.Clone(l)
	at := 0
	for i := range want {
		want[i].At = at
		at += strings.Index(s[at:], "\n") + 1
	}
	holdOps(t, s, want...)
	back, _, _ := Parse(s)
	if !script.Same(back, l) {
		t.Fatalf("%.300q is parsed as %.500v, not as %.500v", s, back, l)
	}
	if again := script.Print(back); again != s {
		t.Fatalf("%.300q is told as %.300q, once parsed", s, again)
	}
	if told(l) != was {
		t.Fatalf("%.500v was %.500s", l, was)
	}
}

// holdBackOf: of the ops of a text.
func holdBackOf(t *testing.T, s string) {
	t.Helper()
	ops, at, e := Parse(s)
	if e != api.OK {
		t.Fatalf("Parse of %.300q: error %d at %d", s, e, at)
	}
	holdBack(t, ops)
}

// Of each kind, one and many, and of none.
func TestP14_2EachKind(t *testing.T) {
	holdBack(t, nil)
	holdBack(t, []script.Op{})
	holdBackOf(t, "# a note")
	all := ""
	for _, x := range samples() {
		holdBack(t, []script.Op{x.op})
		holdBackOf(t, x.text)
		holdBackOf(t, strings.Repeat("\n"+x.text, api.MaxOps))
		all += x.text
	}
	holdBackOf(t, all)
	holdBackOf(t, strings.Repeat(all, api.MaxOps/len(samples())))
}

// Numbers at their edges, at each place.
func TestP14_2Numbers(t *testing.T) {
	for _, form := range numberForms() {
		for _, digits := range []string{"0", "1", "9", "10", "998", "999", "1000", "65536", "99999", "100000", "999998", "999999", "1000000"} {
			if ops, _, e := Parse(strings.ReplaceAll(form.text, "N", digits)); e == api.OK {
				holdBack(t, ops)
			}
		}
	}
}

// Names of each byte that may stand in quotes, and long ones.
func TestP14_2Names(t *testing.T) {
	for b := range 256 {
		if c := string([]byte{byte(b)}); c != `"` && c != "\n" {
			holdBackOf(t, `rename 7 "`+c+`";rename 8 "a`+c+`b`+c+`";merge 1 into 2;`)
		}
	}
	for _, size := range []int{0, 1, api.MaxName, api.MaxName + 1, 1000, api.MaxText - 13} {
		holdBackOf(t, `rename 1 "`+strings.Repeat("a", size)+`";`)
	}
}

// Calendars of no start, of some, of many.
func TestP14_2Calendars(t *testing.T) {
	days := []day.Day{-719162, -1, 0, 1, 11016, 2932896}
	for _, many := range []int{0, 1, 2, 3, api.MaxPeriods, api.MaxPeriods + 1, 5000} {
		var l []day.Day
		for i := range many {
			l = append(l, days[i*i%len(days)])
		}
		for _, end := range days {
			holdBack(t, []script.Op{{Kind: script.Periods, Calendar: calendar.Calendar{Starts: l, End: end}}})
		}
	}
}

// Scripts by chance, of none up to as many ops as may be, however they are written.
func TestP14_2ByChance(t *testing.T) {
	r := rand.New(rand.NewSource(146))
	for i := range 3000 {
		many := r.Intn(8)
		if i%20 == 0 {
			many = r.Intn(api.MaxOps + 1)
		}
		s, _ := joined(scriptBy(r, many), gapOf(r))
		holdBackOf(t, s)
	}
}

// Where a text is told longer than it was written, MaxText counts for what is told: up to it all is parsed, above it nothing.
func TestP14_2Longest(t *testing.T) {
	for _, more := range []int{0, 1} {
		name := strings.Repeat("a", api.MaxText-len("rename 1 \"\";\n")+more)
		ops, at, e := Parse(`rename1"` + name + `";`)
		if e != api.OK {
			t.Fatalf("error %d at %d", e, at)
		}
		if s := script.Print(ops); len(s) <= api.MaxText {
			holdBack(t, ops)
		} else {
			holdError(t, s, 0, api.ErrSize)
		}
	}
}
