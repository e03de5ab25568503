package rule

import (
	"math"
	"slices"
	"strings"
	"testing"

	"transposal/api"
	"transposal/book"
	"transposal/calendar"
	"transposal/chart"
	"transposal/day"
	"transposal/script"
	"transposal/unit"
)

// Numbers that no account of the plain frame has, some of which none may have.
var absent = []uint32{0, 1, 6, 9, 11, 59, 61, 999998, 999999, 1000000, 65536 + 10, 1<<20 + 10, math.MaxInt32, math.MaxUint32 - 1, math.MaxUint32}

// No kind: whatever else an op has, ahead of all that is wrong with it.
func TestP15_1NoKind(t *testing.T) {
	for _, k := range []script.Kind{-1, -2, math.MinInt64, script.Kinds, script.Kinds + 1, 255, 256, 256 + script.Merge, 1 << 32, 1<<32 + script.Join, math.MaxInt64} {
		for _, o := range []script.Op{{}, op(0, 5, 7), op(0, 11, 11), op(0, 1, 3), op(0, 2000, 2000), renames(10, "Till"), renames(9, ""), splits(30, 31, 1), splits(30, 30, -1), periods(0, 59), periods(7)} {
			o.Kind = k
			holdWrong(t, o, api.ErrKind)
			hold(t, frame(), Span{First: 70, Last: -9, Some: true}, o, book.Frame{}, api.ErrKind)
		}
	}
}

func TestP15_1RenumberErrors(t *testing.T) {
	for _, n := range absent {
		holdWrong(t, op(script.Renumber, n, 7), api.ErrNone)
		// ErrNone is ahead of what To is: there, From, no code.
		holdWrong(t, op(script.Renumber, n, 10), api.ErrNone)
		for _, to := range absent {
			holdWrong(t, op(script.Renumber, n, to), api.ErrNone)
		}
		if n == 0 || n > api.MaxCode {
			for _, from := range []uint32{5, 10, 20, 60} {
				holdWrong(t, op(script.Renumber, from, n), api.ErrRange)
			}
		}
	}
	for _, a := range frame().Chart {
		for _, b := range frame().Chart {
			holdWrong(t, op(script.Renumber, a.Code, b.Code), api.ErrTwice)
		}
	}
}

func TestP15_1RenameErrors(t *testing.T) {
	wrongs := []string{"", " ", " Till", "Till ", "Ti-ll", "Ti\tll", "Till\n", "T\u00f6pf", "Till\xff", "\x00", `"`, "a,b", strings.Repeat("z", 31), strings.Repeat("z", 1000), strings.Repeat("\u00e9", 15)}
	for _, name := range wrongs {
		for _, a := range frame().Chart {
			holdWrong(t, renames(a.Code, name), api.ErrName)
		}
		for _, n := range absent {
			holdWrong(t, renames(n, name), api.ErrNone)
		}
	}
	for _, n := range absent {
		holdWrong(t, renames(n, "Till"), api.ErrNone)
	}
}

func TestP15_1ReparentErrors(t *testing.T) {
	for _, n := range absent {
		for _, to := range []uint32{0, 5, 10, 60, 7, n, math.MaxUint32} {
			holdWrong(t, op(script.Reparent, n, to), api.ErrNone)
		}
		if n != 0 {
			for _, a := range frame().Chart {
				holdWrong(t, op(script.Reparent, a.Code, n), api.ErrNone)
			}
		}
	}
	// Of another kind, whichever of the two lies deeper.
	for _, x := range [][2]uint32{{5, 40}, {10, 40}, {10, 50}, {30, 60}, {40, 5}, {40, 30}, {50, 10}, {60, 5}, {60, 40}} {
		holdWrong(t, op(script.Reparent, x[0], x[1]), api.ErrKind)
	}
	// Into itself, into what lies in it, at once or deeper.
	for _, x := range [][2]uint32{{5, 5}, {10, 10}, {30, 30}, {60, 60}, {5, 10}, {5, 20}, {5, 30}, {20, 30}, {40, 50}} {
		holdWrong(t, op(script.Reparent, x[0], x[1]), api.ErrDeep)
	}
}

// chain: accounts, each in the one ahead, from a code on, upwards or downwards.
func chain(c chart.Chart, n int, from uint32, step int, k chart.Kind) chart.Chart {
	parent := uint32(0)
	for i := range n {
		a := chart.Account{Code: uint32(int(from) + i*step), Name: "C", Kind: k, Parent: parent}
		parent = a.Code
		c = c.With(a)
	}
	return c
}

// An account with what lies in it may be MaxDeep deep, and no more; of several things wrong that of the lowest code counts.
func TestP15_1ReparentTooDeep(t *testing.T) {
	for _, step := range []int{1, -1} {
		f := frame()
		f.Chart = chain(f.Chart, 11, 500, step, chart.Asset)
		last := uint32(500 + 10*step)
		want := f
		want.Chart = f.Chart.With(chart.Account{Code: 10, Name: "Cash", Kind: chart.Asset, Parent: last})
		hold(t, f, span(), op(script.Reparent, 10, last), want, api.OK)
		// 30 lies in 20: thirteen in all.
		hold(t, f, span(), op(script.Reparent, 20, last), book.Frame{}, api.ErrDeep)
		hold(t, f, span(), op(script.Reparent, 5, last), book.Frame{}, api.ErrDeep)
		above := uint32(500 + 9*step)
		want.Chart = f.Chart.With(chart.Account{Code: 20, Name: "Bank", Kind: chart.Asset, Parent: above})
		hold(t, f, span(), op(script.Reparent, 20, above), want, api.OK)
		hold(t, f, span(), op(script.Reparent, 5, above), book.Frame{}, api.ErrDeep)

		// The whole chain into another one.
		want.Chart = f.Chart.With(chart.Account{Code: 500, Name: "C", Kind: chart.Asset, Parent: 5})
		hold(t, f, span(), op(script.Reparent, 500, 5), want, api.OK)
		hold(t, f, span(), op(script.Reparent, 500, 10), book.Frame{}, api.ErrDeep)
		hold(t, f, span(), op(script.Reparent, 500, last), book.Frame{}, api.ErrDeep)
	}
}

// Of another kind and too deep at once: accounts are looked at by their codes.
func TestP15_1ReparentKindAndDeep(t *testing.T) {
	f := frame()
	f.Chart = chain(f.Chart, 11, 500, 1, chart.Income)
	// 30, which lies in 20, is behind it.
	hold(t, f, span(), op(script.Reparent, 20, 510), book.Frame{}, api.ErrKind)
	// 15 is ahead of it: too deep, in one of its own kind.
	f.Chart = f.Chart.With(chart.Account{Code: 15, Name: "Till", Kind: chart.Asset, Parent: 20})
	hold(t, f, span(), op(script.Reparent, 20, 510), book.Frame{}, api.ErrDeep)
	hold(t, f, span(), op(script.Reparent, 20, 509), book.Frame{}, api.ErrKind)
	// In none that is there: what lies in it isn't too deep.
	hold(t, f, span(), op(script.Reparent, 20, 511), book.Frame{}, api.ErrNone)
}

func TestP15_1MergeErrors(t *testing.T) {
	for _, n := range absent {
		for _, to := range []uint32{5, 10, 60, 7, n, 0, math.MaxUint32} {
			holdWrong(t, op(script.Merge, n, to), api.ErrNone)
		}
		// ErrNone of To is ahead of what lies in From.
		for _, a := range frame().Chart {
			holdWrong(t, op(script.Merge, a.Code, n), api.ErrNone)
		}
	}
	// ErrSame is ahead of what lies in From.
	for _, a := range frame().Chart {
		holdWrong(t, op(script.Merge, a.Code, a.Code), api.ErrSame)
	}
	for _, x := range [][2]uint32{{10, 40}, {10, 50}, {10, 60}, {30, 60}, {50, 10}, {60, 5}, {60, 50}} {
		holdWrong(t, op(script.Merge, x[0], x[1]), api.ErrKind)
	}
	// ErrKind is ahead of what lies in From.
	for _, x := range [][2]uint32{{5, 40}, {5, 60}, {20, 50}, {40, 5}, {40, 60}} {
		holdWrong(t, op(script.Merge, x[0], x[1]), api.ErrKind)
	}
	// Into one above, beside, below.
	for _, x := range [][2]uint32{{5, 10}, {5, 20}, {5, 30}, {20, 5}, {20, 10}, {20, 30}, {40, 50}} {
		holdWrong(t, op(script.Merge, x[0], x[1]), api.ErrKids)
	}
}

func TestP15_1SplitErrors(t *testing.T) {
	nine := []int64{61, 1, 62, 1, 63, 1, 64, 1, 65, 1, 66, 1, 67, 1, 68, 1, 69, 1}
	for _, n := range absent {
		for _, l := range [][]int64{nil, {7, 1}, {0, 1}, {7, 0}, {10, 1}, {int64(n), 1}, nine} {
			holdWrong(t, splits(n, l...), api.ErrNone)
		}
	}
	for _, n := range []uint32{5, 20, 40} {
		for _, l := range [][]int64{nil, {7, 1}, {0, 1}, {7, 0}, {10, 1}, {int64(n), 1}, nine} {
			holdWrong(t, splits(n, l...), api.ErrKids)
		}
	}
	for _, n := range []uint32{10, 30, 50, 60} {
		holdWrong(t, splits(n), api.ErrSize)
		holdWrong(t, script.Op{Kind: script.Split, From: n, Parts: []script.Part{}}, api.ErrSize)
		holdWrong(t, splits(n, nine...), api.ErrSize)
		// ErrSize is ahead of all that is wrong with a part.
		for _, l := range [][]int64{{0, 1}, {7, 0}, {int64(n), 1}, {10, 1}, {62, 1}} {
			holdWrong(t, splits(n, append(l, nine[2:]...)...), api.ErrSize)
		}
		for _, many := range []int{10, 16, 255, 256, 257, 256 + 8, 1<<16 + 1} {
			holdWrong(t, script.Op{Kind: script.Split, From: n, Parts: make([]script.Part, many)}, api.ErrSize)
		}
	}
}

// part: a part, and what is wrong with it.
type part struct {
	code, weight int64
	e            api.Errno
}

// Parts of 10: OK ones have codes that stand here once.
var parts = []part{
	{0, 1, api.ErrRange}, {1000000, 1, api.ErrRange}, {1 << 20, 1, api.ErrRange}, {math.MaxUint32, 1, api.ErrRange}, {65536*16 + 10, 1, api.ErrRange},
	{7, 0, api.ErrRange}, {7, -1, api.ErrRange}, {7, 1000001, api.ErrRange}, {7, math.MinInt64, api.ErrRange}, {7, math.MaxInt64, api.ErrRange}, {7, 1<<32 + 1, api.ErrRange},
	{0, 0, api.ErrRange}, {math.MaxUint32, math.MinInt64, api.ErrRange},
	// A part's range is ahead of what its code is.
	{10, 0, api.ErrRange}, {20, -1, api.ErrRange}, {40, 1000001, api.ErrRange},
	{10, 1, api.ErrTwice}, {5, 1, api.ErrTwice}, {20, 1000000, api.ErrTwice}, {60, 7, api.ErrTwice},
	{7, 1, api.OK}, {1, 1000000, api.OK}, {999999, 3, api.OK},
}

// Each part, and each two of them, behind others and ahead of others that may be.
func TestP15_1SplitParts(t *testing.T) {
	others := []int64{100, 1, 101, 2, 102, 3, 103, 4, 104, 5, 105, 6}
	for _, p := range parts {
		for behind := 0; behind <= len(others); behind += 2 {
			l := slices.Insert(slices.Clone(others), behind, p.code, p.weight)
			if p.e != api.OK {
				holdWrong(t, splits(10, l...), p.e)
			}
		}
		for _, q := range parts {
			if p.e == api.OK && q.e == api.OK && p.code != q.code {
				continue
			}
			e := p.e
			if e == api.OK {
				e = q.e
			}
			if e == api.OK {
				e = api.ErrTwice // the same code once more
			}
			holdWrong(t, splits(10, p.code, p.weight, q.code, q.weight), e)
			holdWrong(t, splits(10, 100, 1, p.code, p.weight, 101, 1, 102, 1, q.code, q.weight, 103, 1), e)
		}
	}
	// The last of eight has the code of each one ahead.
	for at := 0; at < 7; at++ {
		l := []int64{100, 1, 101, 2, 102, 3, 103, 4, 104, 5, 105, 6, 106, 7, int64(100 + at), 8}
		holdWrong(t, splits(10, l...), api.ErrTwice)
		l[15] = 0
		holdWrong(t, splits(10, l...), api.ErrRange)
	}
}

func TestP15_1RecodeErrors(t *testing.T) {
	for _, k := range []script.Kind{script.Recode, script.Join} {
		// Above MaxEntity: of From and of To, ahead of all else; not by their last 16 bits.
		for _, n := range []uint32{1000, 1001, 1024, 65535, 65536, 65537, 65539, 1<<16 + 5, 1<<31 + 1, math.MaxUint32} {
			for _, other := range []uint32{0, 1, 2, 3, 5, 999, n, 70000} {
				holdWrong(t, op(k, n, other), api.ErrRange)
				holdWrong(t, op(k, other, n), api.ErrRange)
			}
		}
		for _, n := range []uint32{0, 2, 4, 6, 255, 256, 257, 259, 999} {
			for _, to := range []uint32{0, 1, 2, 3, 999, n} {
				holdWrong(t, op(k, n, to), api.ErrNone)
			}
		}
	}
	for _, from := range []uint32{1, 3, 5} {
		for _, to := range []uint32{1, 3, 5} {
			holdWrong(t, op(script.Recode, from, to), api.ErrTwice)
		}
		holdWrong(t, op(script.Join, from, from), api.ErrSame)
		for _, to := range []uint32{0, 2, 4, 6, 999} {
			holdWrong(t, op(script.Join, from, to), api.ErrNone)
		}
		// 0 is no entity's number: the frame that would come out may not be.
		holdWrong(t, op(script.Recode, from, 0), api.ErrRange)
	}
}

func TestP15_1PeriodsErrors(t *testing.T) {
	long := make([]day.Day, 62)
	for i := range long {
		long[i] = day.Day(i)
	}
	for _, x := range []struct {
		o script.Op
		e api.Errno
	}{
		{script.Op{Kind: script.Periods}, api.ErrSize},
		{script.Op{Kind: script.Periods, Calendar: calendar.Calendar{Starts: []day.Day{}, End: 59}}, api.ErrSize},
		{periods(59), api.ErrSize},
		{periods(long...), api.ErrSize},
		{periods(0, 0), api.ErrOrder},
		{periods(0, 59, 59), api.ErrOrder},
		{periods(0, 60, 59), api.ErrOrder},
		{periods(31, 0, 59), api.ErrOrder},
		{periods(-719163, 59), api.ErrDay},
		{periods(0, 2932897), api.ErrDay},
		{periods(0, math.MaxInt32), api.ErrDay},
		{periods(math.MinInt32, 59), api.ErrDay},
		{periods(5, 4, math.MaxInt32), api.ErrOrder},
		{periods(5, math.MaxInt32, 4), api.ErrDay},
	} {
		holdWrong(t, x.o, x.e)
		// Ahead of days that would be in no period.
		hold(t, frame(), Span{First: -9, Last: 900, Some: true}, x.o, book.Frame{}, x.e)
	}
	// As many periods as may be.
	want := frame()
	want.Calendar = calendar.Calendar{Starts: long[:60], End: 60}
	hold(t, frame(), span(), periods(long[:61]...), want, api.OK)
}

// The first and the last journal's day, if there are journals, in each period, at each edge, outside; of each kind of op.
func TestP15_1Days(t *testing.T) {
	days := []day.Day{-719162, -1, 0, 1, 30, 31, 58, 59, 60, 2932896}
	ops := []script.Op{op(script.Renumber, 5, 7), renames(10, "Till"), op(script.Reparent, 20, 10), op(script.Merge, 10, 30), splits(30, 31, 1, 29, 2), op(script.Recode, 1, 4), op(script.Join, 1, 3), periods(0, 31, 59), periods(0, 59), periods(-1, 31), periods(31, 60), periods(30, 31), periods(1, 58), periods(-719162, 2932896)}
	for _, o := range ops {
		want, e := Next(frame(), Span{}, o)
		if e != api.OK {
			t.Fatalf("Next of %v: %d", o, e)
		}
		in := func(d day.Day) bool { return want.Calendar.Starts[0] <= d && d < want.Calendar.End }
		for _, first := range days {
			for _, last := range days {
				if in(first) && in(last) {
					hold(t, frame(), Span{first, last, true}, o, want, api.OK)
				} else {
					hold(t, frame(), Span{first, last, true}, o, book.Frame{}, api.ErrDay)
				}
				hold(t, frame(), Span{first, last, false}, o, want, api.OK)
			}
		}
	}
	// Behind each other error.
	far := Span{First: -9, Last: 900, Some: true}
	for _, x := range []struct {
		o script.Op
		e api.Errno
	}{
		{op(script.Renumber, 5, 0), api.ErrRange}, {op(script.Renumber, 5, 10), api.ErrTwice}, {renames(10, ""), api.ErrName}, {op(script.Reparent, 5, 30), api.ErrDeep}, {op(script.Reparent, 5, 60), api.ErrKind}, {op(script.Reparent, 5, 7), api.ErrNone},
		{op(script.Merge, 5, 30), api.ErrKids}, {op(script.Merge, 5, 5), api.ErrSame}, {splits(60), api.ErrSize}, {splits(60, 60, 1), api.ErrTwice}, {op(script.Recode, 1, 0), api.ErrRange}, {op(script.Recode, 1, 1), api.ErrTwice}, {op(script.Join, 1, 2), api.ErrNone},
	} {
		hold(t, frame(), far, x.o, book.Frame{}, x.e)
	}
}

// flat: as many accounts as asked for, each at the top, each second code.
func flat(n int) chart.Chart {
	c := make(chart.Chart, 0, n)
	for i := range n {
		c = append(c, chart.Account{Code: uint32(2*i + 2), Name: "F", Kind: chart.Equity})
	}
	return c
}

// A frame at its limits: one account more is one too many, one instead of another one isn't.
func TestP15_1FullChart(t *testing.T) {
	f := frame()
	f.Chart = flat(api.MaxAccounts)
	holdFull := func(o script.Op, gone []uint32, more ...uint32) {
		t.Helper()
		want := f
		for _, code := range gone {
			want.Chart = want.Chart.Without(code)
		}
		for _, code := range more {
			want.Chart = want.Chart.With(chart.Account{Code: code, Name: "F", Kind: chart.Equity})
		}
		hold(t, f, span(), o, want, api.OK)
	}
	holdFull(splits(2, 1, 1), []uint32{2}, 1)
	holdFull(splits(400, 401, 1), []uint32{400}, 401)
	holdFull(op(script.Renumber, 2, 999), []uint32{2}, 999)
	holdFull(op(script.Renumber, 400, 1), []uint32{400}, 1)
	holdFull(op(script.Merge, 400, 2), []uint32{400})
	hold(t, f, span(), splits(2, 1, 1, 3, 1), book.Frame{}, api.ErrSize)
	hold(t, f, Span{}, splits(400, 1, 1, 3, 1), book.Frame{}, api.ErrSize)
	hold(t, f, span(), splits(2, 1, 1, 3, 1, 5, 1, 7, 1, 9, 1, 11, 1, 13, 1, 15, 1), book.Frame{}, api.ErrSize)
	// What is wrong with a part is ahead of a frame that is too great, which is ahead of days that are in no period.
	hold(t, f, span(), splits(2, 1, 1, 3, 1, 4, 1), book.Frame{}, api.ErrTwice)
	hold(t, f, span(), splits(2, 1, 1, 3, 1, 5, 0), book.Frame{}, api.ErrRange)
	hold(t, f, Span{First: 70, Last: 80, Some: true}, splits(2, 1, 1, 3, 1), book.Frame{}, api.ErrSize)
	// Up to the limit.
	f.Chart = flat(api.MaxAccounts - 7)
	holdFull(splits(2, 1, 1, 3, 1, 5, 1, 7, 1, 9, 1, 11, 1, 13, 1, 15, 1), []uint32{2}, 1, 3, 5, 7, 9, 11, 13, 15)
	f.Chart = flat(api.MaxAccounts - 6)
	hold(t, f, span(), splits(2, 1, 1, 3, 1, 5, 1, 7, 1, 9, 1, 11, 1, 13, 1, 15, 1), book.Frame{}, api.ErrSize)
}

func TestP15_1FullUnits(t *testing.T) {
	f := frame()
	f.Units = nil
	for n := range api.MaxUnits {
		f.Units = append(f.Units, uint16(25*n+2))
	}
	want := f
	want.Units = append(slices.Clone(f.Units[1:]), 999)
	hold(t, f, span(), op(script.Recode, 2, 999), want, api.OK)
	want.Units = append(unit.Units{1}, f.Units[:39]...)
	hold(t, f, span(), op(script.Recode, 25*39+2, 1), want, api.OK)
	want.Units = f.Units[1:]
	hold(t, f, span(), op(script.Join, 2, 27), want, api.OK)
	hold(t, f, span(), op(script.Join, 2, 25*39+2), want, api.OK)
}

// In a frame without accounts, without entities, nothing is there.
func TestP15_1EmptyFrame(t *testing.T) {
	for _, f := range []book.Frame{{Calendar: months()}, {Chart: chart.Chart{}, Units: unit.Units{}, Calendar: months()}} {
		for _, n := range []uint32{0, 1, 5, 999} {
			for _, o := range []script.Op{op(script.Renumber, n, n+1), renames(n, ""), op(script.Reparent, n, 0), op(script.Merge, n, n), splits(n), op(script.Recode, n, n), op(script.Join, n, n)} {
				hold(t, f, span(), o, book.Frame{}, api.ErrNone)
			}
		}
		want := f
		want.Calendar = calendar.Calendar{Starts: []day.Day{0}, End: 90}
		hold(t, f, span(), periods(0, 90), want, api.OK)
	}
	// The last one may go: of two, one is left.
	f := frame()
	f.Units = unit.Units{7}
	hold(t, f, span(), op(script.Join, 7, 7), book.Frame{}, api.ErrSame)
}
