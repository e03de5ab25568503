package class

import (
	"math"
	"math/rand"
	"regexp"
	"slices"
	"strconv"
	"strings"
	"testing"
	"time"

	"transposal/api"
	"transposal/calendar"
	"transposal/day"
	"transposal/parse"
	"transposal/script"
)

// What an op's text tells: its word, and its numbers; of a split's parts the codes alone are caught.
var (
	plainText  = regexp.MustCompile(`^(renumber|reparent|merge|recode|join) (\d+) (?:to|under|into) (\d+);$`)
	renameText = regexp.MustCompile(`^rename (\d+) "[^"\n]*";$`)
	splitText  = regexp.MustCompile(`^split (\d+) into (.*);$`)
	partText   = regexp.MustCompile(`(\d+) -?\d+(?:, |$)`)
	lossyText  = regexp.MustCompile(`^(merge|split|join) `)
)

// numbers: of texts.
func numbers(t *testing.T, l ...string) map[uint32]bool {
	t.Helper()
	m := map[uint32]bool{}
	for _, s := range l {
		n, e := strconv.ParseUint(s, 10, 32)
		if e != nil {
			t.Fatalf("no number: %q", s)
		}
		m[uint32(n)] = true
	}
	return m
}

// touchedBy: what an op has to do with, of accounts and of entities, by what its text tells.
func touchedBy(t *testing.T, text string) (accounts, entities map[uint32]bool) {
	t.Helper()
	if m := plainText.FindStringSubmatch(text); m != nil {
		if m[1] == "recode" || m[1] == "join" {
			return nil, numbers(t, m[2:]...)
		}
		return numbers(t, m[2:]...), nil
	}
	if m := renameText.FindStringSubmatch(text); m != nil {
		return numbers(t, m[1]), nil
	}
	if m := splitText.FindStringSubmatch(text); m != nil {
		l := []string{m[1]}
		for _, part := range partText.FindAllStringSubmatch(m[2], -1) {
			l = append(l, part[1])
		}
		return numbers(t, l...), nil
	}
	if !strings.HasPrefix(text, "calendar ") {
		t.Fatalf("no op's text: %q", text)
	}
	return nil, nil
}

// holdByText holds an op's answers against what its text tells.
func holdByText(t *testing.T, o script.Op) {
	t.Helper()
	text := o.Text()
	accounts, entities := touchedBy(t, text)
	guarded, same := guard(o)
	if got, want := Lossless(guarded), !lossyText.MatchString(text); got != want {
		t.Errorf("Lossless of %q: %t", text, got)
	}
	for _, n := range asked(o) {
		if got, want := Touches(guarded, false, n), accounts[n]; got != want {
			t.Errorf("Touches of %q (%v), accounts, %d: %t", text, o, n, got)
		}
		if got, want := Touches(guarded, true, n), entities[n]; got != want {
			t.Errorf("Touches of %q (%v), entities, %d: %t", text, o, n, got)
		}
	}
	if !same() {
		t.Errorf("%q was changed", text)
	}
}

// numberBy: one by chance, often at edges or short, so that numbers meet.
func numberBy(r *rand.Rand, most uint32) uint32 {
	switch r.Intn(5) {
	case 0:
		return most
	case 1:
		return 1
	case 2:
		return 1 + uint32(r.Int63n(int64(most)))
	}
	return 1 + uint32(r.Intn(6))
}

// opBy: an op by chance; all its fields have something in them, whatever its kind.
func opBy(r *rand.Rand, most uint32) script.Op {
	o := script.Op{
		Kind: script.Kind(r.Intn(int(script.Kinds))), From: numberBy(r, most), To: numberBy(r, most),
		Name: []string{"", "Cash", "1 2, 3", "a 4 into 5"}[r.Intn(4)], At: r.Intn(api.MaxText),
		Calendar: calendar.Calendar{Starts: []day.Day{day.Day(r.Intn(9)), 31}, End: day.Day(r.Intn(9))},
	}
	for range 1 + r.Intn(api.MaxParts) {
		o.Parts = append(o.Parts, script.Part{Code: numberBy(r, most), Weight: int64(numberBy(r, api.MaxWeight))})
	}
	return o
}

func TestP16_1TextsByHand(t *testing.T) {
	for _, x := range kinds() {
		holdByText(t, full(x.kind))
	}
}

func TestP16_1ByChance(t *testing.T) {
	seed := time.Now().UnixNano()
	t.Logf("seed %d", seed)
	r := rand.New(rand.NewSource(seed))
	for range 6000 {
		holdByText(t, opBy(r, []uint32{api.MaxEntity, api.MaxCode, math.MaxUint32}[r.Intn(3)]))
		if t.Failed() {
			return
		}
	}
}

// Ops by chance, most of them Lossless: where the first one is that isn't, told by their texts.
func TestP16_1LossyByChance(t *testing.T) {
	seed := time.Now().UnixNano()
	t.Logf("seed %d", seed)
	r := rand.New(rand.NewSource(seed))
	for range 3000 {
		var l []script.Op
		want := -1
		for range r.Intn(30) {
			o := opBy(r, api.MaxCode)
			if r.Intn(8) > 0 {
				o.Kind = []script.Kind{script.Renumber, script.Rename, script.Reparent, script.Recode, script.Periods}[r.Intn(5)]
			}
			if want < 0 && lossyText.MatchString(o.Text()) {
				want = len(l)
			}
			l = append(l, o)
		}
		holdPlace(t, l, want)
		if t.Failed() {
			return
		}
	}
}

// Each small op there is: kinds and those beside them, From, To, up to two parts, all numbers up to 3.
func TestP16_1EachSmallOne(t *testing.T) {
	for k := script.Kind(-2); k < script.Kinds+3; k++ {
		for code := range uint32(4 * 4 * 5 * 5) {
			o := script.Op{Kind: k, From: code % 4, To: code / 4 % 4}
			for _, part := range []uint32{code / 16 % 5, code / 80} {
				if part > 0 {
					o.Parts = append(o.Parts, script.Part{Code: part - 1, Weight: 2})
				}
			}
			for n := range uint32(4) {
				for _, unit := range []bool{false, true} {
					if got, want := Touches(o, unit, n), small(o, unit, n); got != want {
						t.Fatalf("Touches of %v, %t, %d: %t", o, unit, n, got)
					}
				}
			}
		}
	}
}

// small: what Touches is to answer, by the chapter's words, from the kinds' table.
func small(o script.Op, unit bool, n uint32) bool {
	at := slices.IndexFunc(kinds(), func(x told) bool { return x.kind == o.Kind })
	if at < 0 {
		return false
	}
	x := kinds()[at]
	all := x.counting(o.From, o.To)
	if x.parts {
		for _, p := range o.Parts {
			all = append(all, p.Code)
		}
	}
	return x.unit == unit && slices.Contains(all, n)
}

// A script, read: what of it can't be turned back, what it has to do with.
func TestP16_1OfScripts(t *testing.T) {
	l, _, e := parse.Parse(`renumber 1 to 9; rename 9 "Cash"; reparent 9 under 0; recode 1 to 4; calendar 1970-01-01 until 1970-02-01;
split 9 into 10 2, 11 1; merge 3 into 2; join 4 into 5;`)
	if e != api.OK || len(l) != 8 {
		t.Fatalf("%v, %d", l, e)
	}
	holdPlace(t, l, 5)
	holdPlace(t, l[:5], -1)
	holdPlace(t, l[6:], 0)
	hold(t, l[0], false, 1, 9)
	hold(t, l[1], false, 9)
	hold(t, l[2], false, 9, 0)
	hold(t, l[3], true, 1, 4)
	holdNone(t, l[4])
	hold(t, l[5], false, 9, 10, 11)
	hold(t, l[6], false, 3, 2)
	hold(t, l[7], true, 4, 5)
}
