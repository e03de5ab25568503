package rule

import (
	"math/rand"
	"regexp"
	"slices"
	"sync"
	"testing"
	"time"

	"transposal/api"
	"transposal/book"
	"transposal/calendar"
	"transposal/chart"
	"transposal/day"
	"transposal/script"
	"transposal/unit"
)

// model is a frame as sets: what ops do to it is told here another way, without the layers below.
type model struct {
	accounts map[uint32]chart.Account
	units    map[uint16]bool
	calendar calendar.Calendar
}

// modelled: a frame's.
func modelled(f book.Frame) model {
	m := model{map[uint32]chart.Account{}, map[uint16]bool{}, f.Calendar}
	for _, a := range f.Chart {
		m.accounts[a.Code] = a
	}
	for _, n := range f.Units {
		m.units[n] = true
	}
	return m
}

// frame: back.
func (m model) frame() book.Frame {
	f := book.Frame{Calendar: m.calendar}
	for _, a := range m.accounts {
		f.Chart = append(f.Chart, a)
	}
	slices.SortFunc(f.Chart, func(a, b chart.Account) int { return int(a.Code) - int(b.Code) })
	for n := range m.units {
		f.Units = append(f.Units, n)
	}
	slices.Sort(f.Units)
	return f
}

// fault is an error, and whether it is there.
type fault struct {
	is bool
	e  api.Errno
}

// faults: what may be wrong with an op in a frame, in order; those of the frame that comes out stand in outcome.
func (m model) faults(o script.Op) []fault {
	from, there := m.accounts[o.From]
	to, toThere := m.accounts[o.To]
	kids := false
	for _, a := range m.accounts {
		kids = kids || a.Parent == o.From
	}
	great := o.From > 999 || o.To > 999
	has, toHas := m.units[uint16(o.From)], m.units[uint16(o.To)]
	switch o.Kind {
	case 0:
		return []fault{{!there, api.ErrNone}, {toThere, api.ErrTwice}}
	case 1, 2:
		return []fault{{!there, api.ErrNone}}
	case 3:
		return []fault{{!there, api.ErrNone}, {o.From == o.To, api.ErrSame}, {!toThere, api.ErrNone}, {from.Kind != to.Kind, api.ErrKind}, {kids, api.ErrKids}}
	case 4:
		l := []fault{{!there, api.ErrNone}, {kids, api.ErrKids}, {len(o.Parts) == 0 || len(o.Parts) > 8, api.ErrSize}}
		for i, p := range o.Parts {
			_, taken := m.accounts[p.Code]
			for _, ahead := range o.Parts[:i] {
				taken = taken || ahead.Code == p.Code
			}
			l = append(l, fault{p.Code == 0 || p.Code > 999999 || p.Weight <= 0 || p.Weight > 1000000, api.ErrRange}, fault{taken, api.ErrTwice})
		}
		return l
	case 5:
		return []fault{{great, api.ErrRange}, {!has, api.ErrNone}, {toHas, api.ErrTwice}}
	case 6:
		return []fault{{great, api.ErrRange}, {!has, api.ErrNone}, {o.From == o.To, api.ErrSame}, {!toHas, api.ErrNone}}
	case 7:
		return nil
	}
	return []fault{{true, api.ErrKind}}
}

// do: what an op does that has no fault of its own.
func (m model) do(o script.Op) model {
	next := modelled(m.frame())
	from := next.accounts[o.From]
	switch o.Kind {
	case 0:
		delete(next.accounts, o.From)
		from.Code = o.To
		next.accounts[o.To] = from
		for code, a := range next.accounts {
			if a.Parent == o.From {
				a.Parent = o.To
				next.accounts[code] = a
			}
		}
	case 1:
		from.Name = o.Name
		next.accounts[o.From] = from
	case 2:
		from.Parent = o.To
		next.accounts[o.From] = from
	case 3:
		delete(next.accounts, o.From)
	case 4:
		delete(next.accounts, o.From)
		for _, p := range o.Parts {
			from.Code = p.Code
			next.accounts[p.Code] = from
		}
	case 5, 6:
		delete(next.units, uint16(o.From))
		next.units[uint16(o.To)] = true
	case 7:
		next.calendar = o.Calendar
	}
	return next
}

// deep: how many accounts lie in one another up from one; 13 where there are more, in rings, too.
func (m model) deep(code uint32) int {
	n := 0
	for code != 0 && n < 13 {
		a, there := m.accounts[code]
		if !there {
			break
		}
		n++
		code = a.Parent
	}
	return n
}

// names: what may be one, by the library's patterns.
var names = regexp.MustCompile(`^[A-Za-z0-9.]([A-Za-z0-9. ]{0,28}[A-Za-z0-9.])?$`)

// outcome: what may be wrong with a frame that came out, in order.
func (m model) outcome(s Span) []fault {
	f := m.frame()
	l := []fault{{len(f.Chart) > 200, api.ErrSize}}
	for _, a := range f.Chart {
		l = append(l, fault{a.Code == 0 || a.Code > 999999, api.ErrRange}, fault{!names.MatchString(a.Name), api.ErrName}, fault{a.Kind > 4, api.ErrKind})
	}
	for _, a := range f.Chart {
		above, there := m.accounts[a.Parent]
		if a.Parent != 0 {
			l = append(l, fault{!there, api.ErrNone}, fault{above.Kind != a.Kind, api.ErrKind}, fault{m.deep(a.Code) > 12, api.ErrDeep})
		}
	}
	l = append(l, fault{len(f.Units) > 40, api.ErrSize})
	for _, n := range f.Units {
		l = append(l, fault{n == 0 || n > 999, api.ErrRange})
	}
	starts := m.calendar.Starts
	l = append(l, fault{len(starts) == 0 || len(starts) > 60, api.ErrSize})
	for i, d := range append(slices.Clone(starts), m.calendar.End) {
		y := time.Unix(int64(d)*86400, 0).UTC().Year()
		l = append(l, fault{y < 1 || y > 9999, api.ErrDay}, fault{i > 0 && d <= starts[max(i-1, 0)], api.ErrOrder})
	}
	if len(starts) > 0 && s.Some {
		l = append(l, fault{s.First < starts[0] || s.First >= m.calendar.End, api.ErrDay}, fault{s.Last < starts[0] || s.Last >= m.calendar.End, api.ErrDay})
	}
	return l
}

// gathered: what Next must answer, told by the model.
func gathered(f book.Frame, s Span, o script.Op) (book.Frame, api.Errno) {
	m := modelled(f)
	for _, x := range m.faults(o) {
		if x.is {
			return book.Frame{}, x.e
		}
	}
	m = m.do(o)
	for _, x := range m.outcome(s) {
		if x.is {
			return book.Frame{}, x.e
		}
	}
	return m.frame(), api.OK
}

// someFrame: one by chance, that may be; codes are few, or from all that there are.
func someFrame(r *rand.Rand) book.Frame {
	f := book.Frame{Calendar: someCalendar(r)}
	greatest := []int{4, 12, 300, 999999}[r.Intn(4)]
	for range r.Intn(14) {
		a := chart.Account{Code: uint32(1 + r.Intn(greatest)), Name: string(rune('A' + r.Intn(26))), Kind: chart.Kind(r.Intn(2))}
		if _, there := f.Chart.Get(a.Code); there {
			continue
		}
		if len(f.Chart) > 0 && r.Intn(4) > 0 {
			above := f.Chart[r.Intn(len(f.Chart))]
			if r.Intn(2) > 0 {
				above = deepest(f.Chart)
			}
			if len(f.Chart.Way(above.Code)) < 12 {
				a.Kind, a.Parent = above.Kind, above.Code
			}
		}
		f.Chart = f.Chart.With(a)
	}
	most := []int{3, 6, 999}[r.Intn(3)]
	for range r.Intn(5) {
		f.Units = f.Units.With(uint16(1 + r.Intn(most)))
	}
	return f
}

// deepest: the account that lies in most others.
func deepest(c chart.Chart) chart.Account {
	return slices.MaxFunc(c, func(a, b chart.Account) int { return len(c.Way(a.Code)) - len(c.Way(b.Code)) })
}

// someCalendar: one by chance, that may be.
func someCalendar(r *rand.Rand) calendar.Calendar {
	var c calendar.Calendar
	c.End = day.Day(r.Intn(5) - 2)
	for range 1 + r.Intn(5) {
		c.Starts = append(c.Starts, c.End)
		c.End += day.Day(1 + r.Intn(30))
	}
	return c
}

// someOp: one by chance: mostly of accounts and entities that are there, or beside these; now and then of any numbers.
func someOp(r *rand.Rand, f book.Frame) script.Op {
	o := script.Op{Kind: script.Kind(r.Intn(8)), Name: []string{"Till", "", "A", "Tin box 7.", " x", "\xc3\xa9", "y "}[r.Intn(7)], Calendar: someCalendar(r), At: r.Intn(9)}
	number := func() uint32 {
		if r.Intn(20) == 0 {
			return []uint32{0, 1, 999, 1000, 1001, 999999, 1000000, 65537, r.Uint32()}[r.Intn(9)]
		}
		if o.Kind.Unit() {
			if len(f.Units) > 0 && r.Intn(4) > 0 {
				return uint32(f.Units[r.Intn(len(f.Units))])
			}
			return uint32(r.Intn(8))
		}
		if len(f.Chart) > 0 && r.Intn(4) > 0 {
			return f.Chart[r.Intn(len(f.Chart))].Code
		}
		return uint32(r.Intn(14))
	}
	o.From, o.To = number(), number()
	if o.Kind == script.Renumber && r.Intn(2) > 0 {
		o.To = uint32(1 + r.Intn(40))
	}
	for range []int{0, 1, 1, 2, 2, 3, 8, 9}[r.Intn(8)] {
		p := script.Part{Code: uint32(1 + r.Intn(400)), Weight: int64(1 + r.Intn(1000000))}
		if r.Intn(12) == 0 {
			p = script.Part{Code: number(), Weight: []int64{0, 1, -1, 1000000, 1000001, r.Int63() - r.Int63()}[r.Intn(6)]}
		}
		o.Parts = append(o.Parts, p)
	}
	if r.Intn(40) == 0 {
		o.Kind = script.Kind([]int{-1, 8, 9, 256, -256, r.Int()}[r.Intn(6)])
	}
	if r.Intn(10) == 0 && len(o.Calendar.Starts) > 1 {
		o.Calendar.Starts[r.Intn(len(o.Calendar.Starts))] = []day.Day{-719163, -719162, 0, 2932896, 2932897}[r.Intn(5)]
	}
	return o
}

// someSpan: one by chance, mostly in the frame's periods.
func someSpan(r *rand.Rand, f book.Frame) Span {
	first := f.Calendar.Starts[0]
	length := int(f.Calendar.End - first)
	s := Span{First: first + day.Day(r.Intn(length)), Some: r.Intn(4) > 0}
	s.Last = s.First + day.Day(r.Intn(int(f.Calendar.End-s.First)))
	if r.Intn(6) == 0 {
		s.First -= day.Day(r.Intn(20))
		s.Last += day.Day(r.Intn(20))
	}
	return s
}

// Ops by chance on frames by chance; each error, and each kind's success, comes up often.
func TestP15_1Chance(t *testing.T) {
	r := rand.New(rand.NewSource(15))
	type met struct {
		kind script.Kind
		e    api.Errno
	}
	times := map[met]int{}
	for range 40000 {
		f := someFrame(r)
		s, o := someSpan(r, f), someOp(r, f)
		want, e := gathered(f, s, o)
		times[met{o.Kind, e}]++
		hold(t, f, s, o, want, e)
		if t.Failed() {
			return
		}
	}
	errors := map[script.Kind][]api.Errno{
		script.Renumber: {api.ErrNone, api.ErrTwice, api.ErrRange},
		script.Rename:   {api.ErrNone, api.ErrName},
		script.Reparent: {api.ErrNone, api.ErrKind, api.ErrDeep},
		script.Merge:    {api.ErrNone, api.ErrSame, api.ErrKind, api.ErrKids},
		script.Split:    {api.ErrNone, api.ErrKids, api.ErrSize, api.ErrRange, api.ErrTwice},
		script.Recode:   {api.ErrRange, api.ErrNone, api.ErrTwice},
		script.Join:     {api.ErrRange, api.ErrNone, api.ErrSame},
		script.Periods:  {api.ErrOrder, api.ErrDay},
	}
	for k, l := range errors {
		for _, e := range append(l, api.OK, api.ErrDay) {
			if times[met{k, e}] < 10 {
				t.Errorf("kind %d, error %d: %d times", k, e, times[met{k, e}])
			}
		}
	}
}

// Each number with each other one, each name, each list of parts, each span: of each kind.
func TestP15_1Each(t *testing.T) {
	numbers := []uint32{0, 1, 2, 3, 5, 7, 10, 20, 30, 40, 50, 60, 999, 1000, 65537, 999999, 1000000, 1<<32 - 1}
	spans := []Span{{}, span(), {First: -1, Last: 5, Some: true}, {First: 5, Last: 59, Some: true}, {First: -1, Last: 59}}
	lists := [][]int64{nil, {7, 1}, {7, 1, 7, 1}, {7, 1, 10, 1}, {0, 1}, {7, 0}, {7, 1, 1000000, 1}, {7, 1, 8, 1000001}, {1, 1, 2, 1, 3, 1, 4, 1, 6, 1, 7, 1, 8, 1, 9, 1}, {1, 1, 2, 1, 3, 1, 4, 1, 6, 1, 7, 1, 8, 1, 9, 1, 0, 0}}
	f := frame()
	each := func(o script.Op) {
		for _, s := range spans {
			if want, e := gathered(f, s, o); !t.Failed() {
				hold(t, f, s, o, want, e)
			}
		}
	}
	for k := script.Kind(-1); k <= script.Kinds; k++ {
		for _, from := range numbers {
			for _, to := range numbers {
				each(script.Op{Kind: k, From: from, To: to, Name: "Till", Parts: []script.Part{{Code: to, Weight: int64(from)}}, Calendar: months()})
			}
			for _, l := range lists {
				o := splits(from, l...)
				o.Kind = k
				each(o)
			}
		}
	}
}

// Ops one behind the other: each is done to the frame of those ahead; of the first one that may not be its place, its error, no frame.
func TestP15_1All(t *testing.T) {
	for _, l := range [][]script.Op{nil, {}, {op(9, 0, 0)}} {
		for _, f := range []book.Frame{frame(), {Calendar: months()}} {
			guarded, same := guardFrame(f)
			if got, at, e := All(guarded, span(), l[:0]); e != api.OK || at != 0 || !book.SameFrame(got, f) || !same() {
				t.Errorf("All of no ops: %v %d %d", got, at, e)
			}
		}
	}
	l := []script.Op{
		op(script.Renumber, 20, 2), op(script.Merge, 30, 2), splits(2, 20, 1, 21, 1), renames(20, "Till"), op(script.Reparent, 21, 20),
		op(script.Join, 1, 3), op(script.Recode, 3, 1), periods(0, 59), op(script.Renumber, 20, 30),
	}
	want := frame()
	want.Chart = accounts("5 Assets A 0; 10 Cash A 5; 21 Bank A 30; 30 Till A 5; 40 Sales I 0; 50 Shops I 40; 60 Debts L 0")
	want.Units = unit.Units{1, 5}
	want.Calendar = calendar.Calendar{Starts: []day.Day{0}, End: 59}
	holdAll(t, frame(), span(), l, want, 0, api.OK)
	// In another order some may not be.
	holdAll(t, frame(), span(), append([]script.Op{l[2]}, l...), book.Frame{}, 0, api.ErrNone)
	holdAll(t, frame(), span(), append(slices.Clone(l[:3]), l[1]), book.Frame{}, 3, api.ErrNone)
	holdAll(t, frame(), span(), append(slices.Clone(l[:8]), l[5], l[0]), book.Frame{}, 8, api.ErrNone)
	// One that may not be, at each place, ahead of another one.
	for _, x := range []struct {
		o script.Op
		e api.Errno
	}{
		{op(script.Renumber, 11, 12), api.ErrNone}, {op(script.Renumber, 5, 10), api.ErrTwice}, {renames(5, ""), api.ErrName}, {op(script.Reparent, 5, 10), api.ErrDeep}, {op(script.Merge, 40, 60), api.ErrKind}, {op(script.Merge, 5, 10), api.ErrKids},
		{splits(50), api.ErrSize}, {splits(50, 0, 1), api.ErrRange}, {op(script.Join, 5, 5), api.ErrSame}, {periods(1, 59), api.ErrDay}, {periods(59), api.ErrSize}, {op(-1, 0, 0), api.ErrKind}, {op(script.Kinds, 0, 0), api.ErrKind},
	} {
		for at := range len(l) + 1 {
			wrong := slices.Insert(slices.Clone(l), at, x.o)
			holdAll(t, frame(), span(), wrong, book.Frame{}, at, x.e)
			holdAll(t, frame(), span(), append(slices.Clone(wrong[:at+1]), op(-5, 0, 0), x.o), book.Frame{}, at, x.e)
		}
	}
}

// holdAll holds All against its answers; the frame and the ops stay as they were.
func holdAll(t *testing.T, f book.Frame, s Span, l []script.Op, want book.Frame, at int, e api.Errno) {
	t.Helper()
	guarded, sameFrame := guardFrame(f)
	ops, sameOps := guardOps(l)
	for range 2 {
		got, ga, ge := All(guarded, s, ops)
		if ga != at || ge != e || !book.SameFrame(got, want) {
			t.Errorf("All of %s, %v, %v: %s, %d, %d; not %s, %d, %d", short(f), s, short(l), short(got), ga, ge, short(want), at, e)
		}
	}
	if !sameFrame() || !sameOps() {
		t.Errorf("All of %s, %v, %v changed them", short(f), s, short(l))
	}
}

// More ops than a script may have: All asks nothing of how many there are.
func TestP15_1AllOfMany(t *testing.T) {
	var l []script.Op
	for i := range uint32(1000) {
		l = append(l, op(script.Renumber, 5+i%2, 6-i%2), op(script.Recode, 1+i%2, 2-i%2))
	}
	holdAll(t, frame(), span(), l, frame(), 0, api.OK)
	l[1999].From = 7
	holdAll(t, frame(), span(), l, book.Frame{}, 1999, api.ErrNone)
	l[1000].To = 10
	holdAll(t, frame(), span(), l, book.Frame{}, 1000, api.ErrTwice)
}

// Ops by chance, as many as may be, then one that may not be; each frame on the way may be.
func TestP15_2Chance(t *testing.T) {
	r := rand.New(rand.NewSource(152))
	longest := 0
	for range 300 {
		f := someFrame(r)
		s := someSpan(r, f)
		var l []script.Op
		at := f
		for range 60 {
			o := someOp(r, at)
			next, e := gathered(at, s, o)
			if e != api.OK {
				holdAll(t, f, s, append(slices.Clone(l), o), book.Frame{}, len(l), e)
				holdAll(t, f, s, append(slices.Clone(l), o, o, op(-1, 0, 0)), book.Frame{}, len(l), e)
				continue
			}
			l, at = append(l, o), next
			got, _, _ := All(f, s, l)
			if got.Check() != api.OK {
				t.Fatalf("All of %v, %v: a frame that may not be", f, l)
			}
		}
		longest = max(longest, len(l))
		holdAll(t, f, s, l, at, 0, api.OK)
		if t.Failed() {
			return
		}
	}
	if longest < 20 {
		t.Errorf("at most %d ops", longest)
	}
}

// What came out ahead stays as it was when more is done to it.
func TestP15_2KeptFrames(t *testing.T) {
	r := rand.New(rand.NewSource(153))
	for range 300 {
		f := someFrame(r)
		frames, looks := []book.Frame{f}, []model{modelled(f)}
		for range 40 {
			at := r.Intn(len(frames))
			if next, e := Next(frames[at], Span{}, someOp(r, frames[at])); e == api.OK {
				frames, looks = append(frames, next), append(looks, modelled(next))
			}
		}
		for i, one := range frames {
			if !book.SameFrame(one, looks[i].frame()) {
				t.Fatalf("frame %d is another one by now: %v", i, one)
			}
		}
	}
}

// Any number of callers at once.
func TestP15_1AtOnce(t *testing.T) {
	f := frame()
	l := []script.Op{op(script.Renumber, 20, 2), splits(30, 31, 1, 32, 2), op(script.Join, 1, 3), periods(0, 59)}
	want, _, e := All(f, span(), l)
	if e != api.OK {
		t.Fatal(e)
	}
	var all sync.WaitGroup
	for range 20 {
		all.Go(func() {
			for range 20 {
				if got, at, e := All(f, span(), l); e != api.OK || at != 0 || !book.SameFrame(got, want) {
					t.Errorf("All: %v %d %d", got, at, e)
				}
			}
		})
	}
	all.Wait()
}
