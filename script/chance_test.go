package script

import (
	"fmt"
	"math"
	"math/rand"
	"strings"
	"testing"
	"time"

	"transposal/api"
	"transposal/calendar"
	"transposal/day"
	"transposal/lex"
)

// numberBy: one up to a greatest one, by chance, often at the edges or short.
func numberBy(r *rand.Rand, most int64) int64 {
	switch r.Intn(6) {
	case 0:
		return 1
	case 1:
		return most
	case 2:
		return 1 + r.Int63n(9)
	case 3:
		return 1 + r.Int63n(min(most, 999))
	}
	return 1 + r.Int63n(most)
}

// nameBy: what may stand in quotes, by chance.
func nameBy(r *rand.Rand) string {
	signs := []rune("abcXYZ 0129..,;#-\\'\té現\x00\ufffd")
	name := ""
	for range r.Intn(api.MaxName + 1) {
		name += string(signs[r.Intn(len(signs))])
	}
	return name
}

// dayBy: one of all that there are, by chance.
func dayBy(r *rand.Rand) day.Day {
	return firstDay + day.Day(r.Intn(int(lastDay-firstDay)+1))
}

// opBy: one that a script may have, by chance; its other fields have something in them now and then.
func opBy(r *rand.Rand) Op {
	o := Op{Kind: Kind(r.Intn(int(Kinds)))}
	if r.Intn(4) == 0 {
		o = full(o.Kind)
	}
	o.At = r.Intn(api.MaxText)
	most := int64(api.MaxCode)
	if o.Kind == Recode || o.Kind == Join {
		most = api.MaxEntity
	}
	o.From = uint32(numberBy(r, most))
	switch o.Kind {
	case Rename:
		o.Name = nameBy(r)
	case Split:
		o.Parts = nil
		for range 1 + r.Intn(api.MaxParts) {
			o.Parts = append(o.Parts, Part{uint32(numberBy(r, api.MaxCode)), numberBy(r, api.MaxWeight)})
		}
	case Periods:
		o.Calendar = calendar.Calendar{End: dayBy(r)}
		for range r.Intn(api.MaxPeriods + 1) {
			o.Calendar.Starts = append(o.Calendar.Starts, dayBy(r))
		}
	default:
		o.To = uint32(numberBy(r, most))
		if o.Kind == Reparent && r.Intn(3) == 0 {
			o.To = 0
		}
	}
	return o
}

// date: a day's text, by the library's calendar.
func date(d day.Day) string {
	return time.Unix(int64(d)*86400, 0).UTC().Format("2006-01-02")
}

// gathered: an op's text, gathered by the library's patterns.
func gathered(o Op) string {
	switch o.Kind {
	case Renumber:
		return fmt.Sprintf("renumber %d to %d;", o.From, o.To)
	case Rename:
		return fmt.Sprintf("rename %d \"%s\";", o.From, o.Name)
	case Reparent:
		return fmt.Sprintf("reparent %d under %d;", o.From, o.To)
	case Merge:
		return fmt.Sprintf("merge %d into %d;", o.From, o.To)
	case Recode:
		return fmt.Sprintf("recode %d to %d;", o.From, o.To)
	case Join:
		return fmt.Sprintf("join %d into %d;", o.From, o.To)
	case Split:
		s := fmt.Sprintf("split %d into", o.From)
		for _, p := range o.Parts {
			s += fmt.Sprintf(" %d %d,", p.Code, p.Weight)
		}
		return strings.TrimSuffix(s, ",") + ";"
	}
	s := "calendar "
	for _, d := range o.Calendar.Starts {
		s += date(d) + " "
	}
	return s + "until " + date(o.Calendar.End) + ";"
}

// tokens: what an op's text must be split into, each as its kind and its text.
func tokens(o Op) []string {
	word := func(s string) string { return fmt.Sprint(lex.Word, s) }
	number := func(n int64) string { return fmt.Sprint(lex.Number, n) }
	date := func(d day.Day) string { return fmt.Sprint(lex.Date, d) }
	sign := func(s string) string { return fmt.Sprint(lex.Sign, s) }
	x := kinds()[o.Kind]
	l := []string{word(x.word)}
	switch o.Kind {
	case Rename:
		l = append(l, number(int64(o.From)), fmt.Sprint(lex.Text, o.Name))
	case Split:
		l = append(l, number(int64(o.From)), word(x.link))
		for i, p := range o.Parts {
			if i > 0 {
				l = append(l, sign(","))
			}
			l = append(l, number(int64(p.Code)), number(p.Weight))
		}
	case Periods:
		for _, d := range o.Calendar.Starts {
			l = append(l, date(d))
		}
		l = append(l, word(x.link), date(o.Calendar.End))
	default:
		l = append(l, number(int64(o.From)), word(x.link), number(int64(o.To)))
	}
	return append(l, sign(";"))
}

// split: a text's tokens but the end, each as its kind and what it tells.
func split(t *testing.T, s string) []string {
	t.Helper()
	all, at, e := lex.Split(s)
	if e != api.OK {
		t.Fatalf("Split of %.200q: error %d at %d", s, e, at)
	}
	var l []string
	for _, k := range all[:len(all)-1] {
		switch k.Kind {
		case lex.Number:
			l = append(l, fmt.Sprint(k.Kind, k.Num))
		case lex.Date:
			l = append(l, fmt.Sprint(k.Kind, k.Day))
		default:
			l = append(l, fmt.Sprint(k.Kind, k.Text))
		}
	}
	return l
}

// Texts of ops by chance, byte by byte, and token by token.
func TestP13_1TextByChance(t *testing.T) {
	r := rand.New(rand.NewSource(131))
	seen := map[Kind]int{}
	for range 20000 {
		o := opBy(r)
		seen[o.Kind]++
		holdText(t, o, gathered(o))
		if got, want := fmt.Sprintf("%q", split(t, o.Text())), fmt.Sprintf("%q", tokens(o)); got != want {
			t.Fatalf("Text of %v has tokens %.500s, not %.500s", o, got, want)
		}
	}
	if len(seen) != int(Kinds) {
		t.Errorf("of each kind: %v", seen)
	}
}

// Lists of ops by chance.
func TestP13_1PrintByChance(t *testing.T) {
	r := rand.New(rand.NewSource(132))
	for range 500 {
		var l []Op
		var lines, all []string
		for range r.Intn(api.MaxOps + 1) {
			o := opBy(r)
			l = append(l, o)
			lines = append(lines, gathered(o), "\n")
			all = append(all, tokens(o)...)
		}
		holdPrint(t, l, strings.Join(lines, ""))
		if s := Print(l); len(s) <= api.MaxText {
			if got, want := fmt.Sprintf("%q", split(t, s)), fmt.Sprintf("%q", all); got != want {
				t.Fatalf("Print of %v has tokens %.500s, not %.500s", l, got, want)
			}
		}
	}
}

// changedBy: an op with one field, or none, changed by chance.
func changedBy(r *rand.Rand, o Op) Op {
	o = cloned(o)
	switch r.Intn(12) {
	case 0:
		o.Kind = Kind(r.Intn(int(Kinds)+2)) - 1
	case 1:
		o.From ^= 1 << r.Intn(32)
	case 2:
		o.To ^= 1 << r.Intn(32)
	case 3:
		o.Name = nameBy(r)
	case 4:
		o.Parts = append(o.Parts, Part{uint32(numberBy(r, math.MaxUint32)), numberBy(r, math.MaxInt64)})
	case 5:
		if len(o.Parts) > 0 {
			p := &o.Parts[r.Intn(len(o.Parts))]
			p.Code, p.Weight = uint32(numberBy(r, 9)), numberBy(r, 9)
		}
	case 6:
		o.Parts = o.Parts[:r.Intn(len(o.Parts)+1)]
	case 7:
		o.Calendar.Starts = append(o.Calendar.Starts, dayBy(r))
	case 8:
		if len(o.Calendar.Starts) > 0 {
			o.Calendar.Starts[r.Intn(len(o.Calendar.Starts))] = dayBy(r)
		}
	case 9:
		o.Calendar.Starts = o.Calendar.Starts[:r.Intn(len(o.Calendar.Starts)+1)]
	case 10:
		o.Calendar.End = dayBy(r)
	default:
		o.At = r.Int()
	}
	return o
}

// written: all that Same is about, as one text.
func written(l []Op) string {
	s := ""
	for _, o := range l {
		s += fmt.Sprintf("%d %d %d %q %v %v %d\n", o.Kind, o.From, o.To, o.Name, o.Parts, o.Calendar.Starts, o.Calendar.End)
	}
	return s
}

// Same of lists by chance, and of what came of them by a change or two, held against all their fields.
func TestP13_1SameByChance(t *testing.T) {
	r := rand.New(rand.NewSource(133))
	seen := map[bool]int{}
	for range 5000 {
		var l []Op
		for range r.Intn(6) {
			l = append(l, opBy(r))
		}
		other := clonedAll(l)
		for range r.Intn(3) {
			if len(other) == 0 {
				break
			}
			at := r.Intn(len(other))
			switch r.Intn(8) {
			case 0:
				other[at] = opBy(r)
			case 1:
				other = append(other[:at], other[at+1:]...)
			case 2:
				next := r.Intn(len(other))
				other[at], other[next] = other[next], other[at]
			default:
				other[at] = changedBy(r, other[at])
			}
		}
		want := written(l) == written(other)
		seen[want]++
		holdSame(t, l, other, want)
	}
	if seen[true] < 100 || seen[false] < 100 {
		t.Errorf("the same, and not: %v", seen)
	}
}
