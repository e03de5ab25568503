package chart

import (
	"fmt"
	"math"
	"math/rand"
	"slices"
	"strings"
	"testing"

	"transposal/api"
)

// plain: an account that may be, of an Asset, in the one of code parent.
func plain(code, parent uint32) Account {
	return Account{Code: code, Name: "n", Kind: Asset, Parent: parent}
}

// flat: accounts that may be, in none, of the codes 1 to n.
func flat(n int) Chart {
	var c Chart
	for code := range n {
		c = append(c, plain(uint32(code)+1, 0))
	}
	return c
}

// row: accounts of the codes 1 to n, each in the one ahead of it.
func row(n int) Chart {
	c := flat(n)
	for at := range c {
		c[at].Parent = uint32(at)
	}
	return c
}

// replaced: a chart with another account at a place.
func replaced(c Chart, at int, a Account) Chart {
	c = slices.Clone(c)
	c[at] = a
	return c
}

// guard: a chart with marks in its spare room; what is called tells whether it, and they, are as they were.
func guard(c Chart) (Chart, func() bool) {
	room := make(Chart, len(c)+3)
	for at := copy(room, c); at < len(room); at++ {
		room[at] = Account{Code: 77777, Name: "mark", Kind: Expense, Parent: 88888}
	}
	were := slices.Clone(room)
	return room[:len(c)], func() bool { return slices.Equal(room, were) }
}

// each: all charts of some of these codes, rising, with parents as from tells them for the account's place.
func each(codes []uint32, from func(at int) uint32) []Chart {
	var all []Chart
	for some := range 1 << len(codes) {
		c := Chart{}
		for i, code := range codes {
			if some>>i&1 == 1 {
				c = append(c, Account{code, fmt.Sprint("of ", code), Kind(i % 5), from(i)})
			}
		}
		all = append(all, c)
	}
	return all
}

// edges are codes at edges, rising.
var edges = []uint32{0, 1, 2, 255, 256, 1 << 16, api.MaxCode, api.MaxCode + 1, 1<<31 - 1, 1 << 31, math.MaxUint32 - 1, math.MaxUint32}

// asked: the edges, and those one beside them.
func asked() []uint32 {
	var l []uint32
	for _, code := range edges {
		l = append(l, code-1, code, code+1)
	}
	return l
}

// holdCodes holds a list of codes against what it must be.
func holdCodes(t *testing.T, what string, got, want []uint32) {
	t.Helper()
	if !slices.Equal(got, want) {
		t.Fatalf("%s: %v, not %v", what, got, want)
	}
}

func TestP6_1Kinds(t *testing.T) {
	if Asset != 0 || Liability != 1 || Equity != 2 || Income != 3 || Expense != 4 || Kinds != 5 {
		t.Fatal("the kinds have other numbers")
	}
	credit := map[Kind]bool{Liability: true, Equity: true, Income: true}
	flow := map[Kind]bool{Income: true, Expense: true}
	for n := range 256 {
		if k := Kind(n); k.Credit() != credit[k] || k.Flow() != flow[k] {
			t.Errorf("Kind %d: Credit %t, Flow %t", k, k.Credit(), k.Flow())
		}
	}
}

func TestP6_1Name(t *testing.T) {
	thirty := "abc.XYZ 0189 of thirty letters"
	for _, s := range []string{
		"a", "z", "A", "Z", "0", "9", ".", "n", "Cash", "cash in bank", "1", "1000", "3.5", "...", ".a.", "a.", ".a", "a  b", "a . b", ". .",
		thirty, strings.Repeat("a", 29), strings.Repeat("a", 30), strings.Repeat(".", 30), "a" + strings.Repeat(" ", 28) + "b",
	} {
		if !Name(s) {
			t.Errorf("Name(%q): false", s)
		}
	}
	for _, s := range []string{
		"",
		// Too many.
		thirty + "a", strings.Repeat("a", 31), strings.Repeat("a", 60), strings.Repeat("a", 256), strings.Repeat("a", 257), strings.Repeat("b", 1<<16+1), strings.Repeat("a", 1<<20),
		// A blank at an end.
		" ", "  ", " a", "a ", " a ", "  a", "a  ", ". ", " .", strings.Repeat(" ", 30), " " + strings.Repeat("a", 29), strings.Repeat("a", 29) + " ",
		strings.Repeat("a", 30) + " ", " " + strings.Repeat("a", 30),
		// Other characters.
		"a-b", "a_b", "a,b", "a;b", "a\"b", "\"", "#", "a/b", "a:b", "@", "[", "`", "{", "a\tb", "a\nb", "\n", "a\x00b", "\x00", "a\x7fb", "a'b", "(a)", "a&b", "a\r",
		// Characters of other scripts, though Unicode calls them letters, digits, blanks, points.
		"é", "Überschuß", "Ä", "ａ", "１", "٣", "a\u00a0b", "a\u3000b", "a。b", "а", "现金", "a😀", "\ufeffa", "\ufffd", "a\u2028b",
		// Bytes that are no text.
		"\xff", "a\xff", "\xffa", "a\xc3", "a\xc3b", "\xe4b8", "a\x80b", "\xc0\xa0", "\xc1\xa1", "a\xe0\x81\xa1b", "\xed\xa0\x80",
		strings.Repeat("é", 15), strings.Repeat("é", 30), strings.Repeat("\xff", 30),
	} {
		if Name(s) {
			t.Errorf("Name(%.40q): true", s)
		}
	}
}

func TestP6_1NameEachLength(t *testing.T) {
	for n := range 300 {
		if got, want := Name(strings.Repeat("x", n)), 1 <= n && n <= 30; got != want {
			t.Errorf("Name of %d letters: %t", n, got)
		}
	}
}

// stands: may a character stand in a name, told by a list of all that may?
func stands(s string) bool {
	return len(s) == 1 && strings.Contains("abcdefghijklmnopqrstuvwxyzABCDEFGHIJKLMNOPQRSTUVWXYZ0123456789 .", s)
}

// Each byte, and each character that there is, alone, at an end, and within.
func TestP6_1NameEachCharacter(t *testing.T) {
	var all []string
	for b := range 256 {
		all = append(all, string([]byte{byte(b)}))
	}
	for r := rune(0); r <= 0x10ffff; r++ {
		all = append(all, string(r))
	}
	for _, s := range all {
		within := stands(s)
		atEnd := within && s != " "
		if Name("a"+s+"a") != within {
			t.Fatalf("Name of %q between letters: %t", s, !within)
		}
		if Name(s) != atEnd || Name(s+"a") != atEnd || Name("a"+s) != atEnd {
			t.Fatalf("Name of %q: %t, ahead of a letter %t, behind one %t", s, Name(s), Name(s+"a"), Name("a"+s))
		}
	}
}

// Wherever in a name a wrong character stands, it is seen.
func TestP6_1NameEachPlace(t *testing.T) {
	name := strings.Repeat("m", 28)
	for at := range name {
		for _, wrong := range []string{"-", "\x00", "\xff", "_", "é", "現"} {
			if s := name[:at] + wrong + name[at+1:]; Name(s) {
				t.Errorf("Name(%q): true", s)
			}
		}
	}
}

func TestP6_1Code(t *testing.T) {
	for n := range uint32(1100000) {
		if got, want := Code(n), n >= 1 && n <= 999999; got != want {
			t.Fatalf("Code(%d): %t", n, got)
		}
	}
	for i := range 32 {
		for _, n := range []uint32{1 << i, 1<<i - 1, 1<<i + 1, -(1 << i), 1<<i + 999999} {
			if got, want := Code(n), n >= 1 && n <= 999999; got != want {
				t.Errorf("Code(%d): %t", n, got)
			}
		}
	}
}

// holdCheck holds a chart's Check against what it must be; the chart stays as it was.
func holdCheck(t *testing.T, what string, c Chart, want api.Errno) {
	t.Helper()
	guarded, same := guard(c)
	if got := guarded.Check(); got != want {
		t.Errorf("Check of %s: %d, not %d", what, got, want)
	}
	if !same() {
		t.Errorf("Check of %s changed it", what)
	}
}

func TestP6_1CheckMayBe(t *testing.T) {
	holdCheck(t, "none", Chart{}, api.OK)
	if got := Chart(nil).Check(); got != api.OK {
		t.Errorf("Check of nil: %d", got)
	}
	for _, n := range []int{1, 2, 100, api.MaxAccounts - 1, api.MaxAccounts} {
		holdCheck(t, fmt.Sprint(n, " accounts"), flat(n), api.OK)
	}
	holdCheck(t, "a row as deep as can be", row(api.MaxDeep), api.OK)
	holdCheck(t, "the least and the greatest code", Chart{plain(1, api.MaxCode), plain(api.MaxCode, 0)}, api.OK)
	holdCheck(t, "one in one behind it, as deep as can be", mirrored(row(api.MaxDeep)), api.OK)
	for k := range Kinds {
		holdCheck(t, fmt.Sprint("kind ", k), Chart{{2, "Of a kind", k, 0}, {3, "in it", k, 2}}, api.OK)
	}
	holdCheck(t, "accounts of one name", Chart{{2, "n", Asset, 0}, {3, "n", Income, 0}}, api.OK)
	wide := flat(api.MaxAccounts)
	for at := range wide[1:] {
		wide[at+1].Parent = 1
	}
	holdCheck(t, "all in the first one", wide, api.OK)
}

// mirrored: a chart of the codes 1 to n, turned round, so that the first one is the last one.
func mirrored(c Chart) Chart {
	n := uint32(len(c)) + 1
	l := make(Chart, len(c))
	for at, a := range c {
		a.Code = n - a.Code
		if a.Parent != 0 {
			a.Parent = n - a.Parent
		}
		l[len(c)-1-at] = a
	}
	return l
}

func TestP6_1CheckSize(t *testing.T) {
	for _, n := range []int{api.MaxAccounts + 1, api.MaxAccounts + 2, 256, 257, 1000, 1<<16 + 1} {
		holdCheck(t, fmt.Sprint(n, " accounts"), flat(n), api.ErrSize)
		// Ahead of all that is wrong with them.
		holdCheck(t, fmt.Sprint(n, " accounts that may not be"), make(Chart, n), api.ErrSize)
	}
	holdCheck(t, "as many as can be that may not be", make(Chart, api.MaxAccounts), api.ErrRange)
}

func TestP6_1CheckRange(t *testing.T) {
	for _, code := range []uint32{0, api.MaxCode + 1, api.MaxCode + 2, 1 << 24, 1 << 31, 1<<31 + 5, math.MaxUint32 - 1, math.MaxUint32} {
		a := plain(code, 0)
		holdCheck(t, fmt.Sprint("code ", code), Chart{a}, api.ErrRange)
		holdCheck(t, fmt.Sprint("code ", code, " behind others"), append(flat(5), a), api.ErrRange)
		holdCheck(t, fmt.Sprint("code ", code, " ahead of others"), append(Chart{a}, flat(5)...), api.ErrRange)
	}
}

func TestP6_1CheckOrder(t *testing.T) {
	for _, c := range []Chart{
		{plain(1, 0), plain(1, 0)},
		{plain(2, 0), plain(1, 0)},
		{plain(api.MaxCode, 0), plain(api.MaxCode, 0)},
		{plain(api.MaxCode, 0), plain(1, 0)},
		{plain(1, 0), plain(2, 0), plain(2, 0), plain(3, 0)},
		{plain(1, 0), plain(3, 0), plain(2, 0), plain(4, 0)},
		{plain(1, 0), plain(3, 0), plain(4, 0), plain(2, 0)},
		{plain(5, 0), plain(6, 0), plain(7, 0), plain(5, 0)},
		// Ahead of where they lie, which of codes that don't rise isn't to be told.
		{plain(2, 1), plain(1, 0)},
		{plain(3, 9), plain(2, 2), plain(1, 1)},
	} {
		holdCheck(t, fmt.Sprint(c), c, api.ErrOrder)
	}
	turned := flat(api.MaxAccounts)
	slices.Reverse(turned)
	holdCheck(t, "falling codes", turned, api.ErrOrder)
	holdCheck(t, "one twice at the end", replaced(flat(api.MaxAccounts), api.MaxAccounts-1, plain(api.MaxAccounts-1, 0)), api.ErrOrder)
}

func TestP6_1CheckNameAndKind(t *testing.T) {
	for at := range 5 {
		code := uint32(at) + 1
		for _, s := range []string{"", " ", "a ", " a", "a-b", "é", "\xff", strings.Repeat("a", 31)} {
			holdCheck(t, fmt.Sprintf("name %q at %d", s, at), replaced(flat(5), at, Account{code, s, Asset, 0}), api.ErrName)
		}
		for k := range 256 {
			want := api.OK
			if k >= 5 {
				want = api.ErrKind
			}
			holdCheck(t, fmt.Sprint("kind ", k, " at ", at), replaced(flat(5), at, Account{code, "a", Kind(k), 0}), want)
		}
	}
}

func TestP6_1CheckParent(t *testing.T) {
	for at := range 5 {
		code := uint32(at) + 1
		for _, parent := range []uint32{6, 7, api.MaxCode, api.MaxCode + 1, 1 << 31, 1<<31 + 1, math.MaxUint32} {
			holdCheck(t, fmt.Sprint(code, " in ", parent, ", that isn't there"), replaced(flat(5), at, plain(code, parent)), api.ErrNone)
		}
		for parent := uint32(1); parent <= 5; parent++ {
			for k := range Kinds {
				want := api.ErrKind
				switch {
				case parent == code:
					want = api.ErrDeep
				case k == Asset:
					want = api.OK
				}
				holdCheck(t, fmt.Sprint(code, " of kind ", k, " in ", parent), replaced(flat(5), at, Account{code, "a", k, parent}), want)
			}
		}
	}
}

func TestP6_1CheckDeep(t *testing.T) {
	for n := 1; n <= 30; n++ {
		want := api.OK
		if n > api.MaxDeep {
			want = api.ErrDeep
		}
		holdCheck(t, fmt.Sprint("a row of ", n), row(n), want)
		holdCheck(t, fmt.Sprint("a row of ", n, ", the last one first"), mirrored(row(n)), want)
		// Just one of many is too deep.
		wide := append(row(n), flat(api.MaxAccounts)[n:]...)
		holdCheck(t, fmt.Sprint("a row of ", n, " and others"), wide, want)
	}
	// Deep, and what it lies in is missing, or of another kind, at last: the first account that is wrong tells.
	long := mirrored(row(api.MaxDeep + 1))
	holdCheck(t, "a row too deep, whose last one lies in none that is there", replaced(long, len(long)-1, plain(uint32(len(long)), 999)), api.ErrDeep)
	short := mirrored(row(api.MaxDeep))
	holdCheck(t, "a row as deep as can be, likewise", replaced(short, len(short)-1, plain(uint32(len(short)), 999)), api.ErrNone)
	holdCheck(t, "a row, whose last one is of another kind", replaced(short, len(short)-1, Account{uint32(len(short)), "a", Income, 0}), api.ErrKind)
}

func TestP6_1CheckRing(t *testing.T) {
	for n := 1; n <= 30; n++ {
		ring := row(n)
		ring[0].Parent = uint32(n)
		holdCheck(t, fmt.Sprint("a ring of ", n), ring, api.ErrDeep)
		holdCheck(t, fmt.Sprint("a ring of ", n, ", turned round"), mirrored(ring), api.ErrDeep)
		holdCheck(t, fmt.Sprint("a ring of ", n, " behind others"), append(flat(50), shifted(ring, 50)...), api.ErrDeep)
		holdCheck(t, fmt.Sprint("one that lies in a ring of ", n), append(Chart{plain(1, 2)}, shifted(ring, 1)...), api.ErrDeep)
		if n > 1 {
			unlike := slices.Clone(ring)
			unlike[n-1].Kind = Equity
			holdCheck(t, fmt.Sprint("a ring of ", n, " of unlike kinds"), unlike, api.ErrKind)
		}
	}
}

// shifted: a chart with all codes greater by n.
func shifted(c Chart, n uint32) Chart {
	c = slices.Clone(c)
	for at := range c {
		c[at].Code += n
		if c[at].Parent != 0 {
			c[at].Parent += n
		}
	}
	return c
}

// A chart with two faults: Check tells the one that its sentence names first.
func TestP6_1CheckOrderOfErrors(t *testing.T) {
	for _, x := range []struct {
		what string
		c    Chart
		want api.Errno
	}{
		{"all wrong with one", Chart{{0, "", Kinds, 9}}, api.ErrRange},
		{"all wrong but the code", Chart{plain(5, 0), {5, "", Kinds, 9}}, api.ErrOrder},
		{"a code that is out of range, and not above", Chart{plain(5, 0), {0, "a", Asset, 0}}, api.ErrRange},
		{"name, kind, parent", Chart{{1, "", Kinds, 9}}, api.ErrName},
		{"order and name", Chart{plain(5, 0), {4, " ", Asset, 0}}, api.ErrOrder},
		{"order and kind", Chart{plain(5, 0), {4, "a", 255, 0}}, api.ErrOrder},
		{"kind and parent", Chart{{1, "a", Kinds, 9}}, api.ErrKind},
		{"kind, and itself the parent", Chart{{1, "a", Kinds, 1}}, api.ErrKind},
		// Account by account.
		{"a kind ahead of a code", Chart{{1, "a", Kinds, 0}, plain(0, 0)}, api.ErrKind},
		{"a name ahead of a code", Chart{{1, "", Asset, 0}, plain(api.MaxCode+1, 0)}, api.ErrName},
		{"a kind ahead of an order", Chart{{2, "a", 9, 0}, plain(1, 0)}, api.ErrKind},
		{"an order ahead of a code", Chart{plain(2, 0), plain(2, 0), plain(0, 0)}, api.ErrOrder},
		{"a kind ahead of a name", Chart{{2, "a", 9, 0}, {3, "", Asset, 0}}, api.ErrKind},
		{"a name ahead of a kind", Chart{{2, "", Asset, 0}, {3, "a", 9, 0}}, api.ErrName},
		// All accounts, ahead of what they lie in.
		{"a parent ahead of a code", Chart{plain(1, 9), plain(0, 0)}, api.ErrRange},
		{"a parent ahead of an order", Chart{plain(2, 9), plain(1, 0)}, api.ErrOrder},
		{"a parent ahead of a name", Chart{plain(1, 9), {2, "", Asset, 0}}, api.ErrName},
		{"a parent ahead of a kind", Chart{plain(1, 9), {2, "a", Kinds, 0}}, api.ErrKind},
		{"a ring ahead of a name", Chart{plain(1, 1), {2, "", Asset, 0}}, api.ErrName},
		{"a parent of another kind ahead of a name", Chart{{1, "a", Income, 2}, {2, "", Asset, 0}}, api.ErrName},
		// Then account by account again.
		{"none, then another kind", Chart{plain(1, 9), {2, "a", Income, 1}}, api.ErrNone},
		{"another kind, then none", Chart{{1, "a", Income, 2}, plain(2, 9)}, api.ErrKind},
		{"none, then itself", Chart{plain(1, 9), plain(2, 2)}, api.ErrNone},
		{"itself, then none", Chart{plain(1, 1), plain(2, 9)}, api.ErrDeep},
		{"another kind, then itself", Chart{{1, "a", Income, 2}, plain(2, 2)}, api.ErrKind},
		{"itself, then another kind", Chart{plain(1, 1), {2, "a", Income, 1}}, api.ErrDeep},
		{"one in one that lies in none that is there", Chart{plain(1, 2), plain(2, 9)}, api.ErrNone},
		{"one in one that lies in one of another kind", Chart{plain(1, 2), plain(2, 3), {3, "a", Income, 0}}, api.ErrKind},
		// Of one account.
		{"another kind, and in a ring", Chart{plain(1, 2), {2, "a", Income, 1}}, api.ErrKind},
		{"another kind, and too deep", append(Chart{{1, "a", Income, 2}}, shifted(mirrored(row(api.MaxDeep)), 1)...), api.ErrKind},
	} {
		holdCheck(t, x.what, x.c, x.want)
	}
}

// fault is an error of a chart, and where Check's sentence names it.
type fault struct {
	pass, at, rank int
	err            api.Errno
}

// faults: all that is wrong with a chart, told by a map, and by going from account to account.
func faults(c Chart) []fault {
	var l []fault
	note := func(wrong bool, pass, at, rank int, err api.Errno) {
		if wrong {
			l = append(l, fault{pass, at, rank, err})
		}
	}
	by := map[uint32]Account{}
	for _, a := range c {
		by[a.Code] = a
	}
	ahead := int64(-1)
	for at, a := range c {
		note(a.Code == 0 || a.Code > 999999, 0, at, 0, api.ErrRange)
		note(int64(a.Code) <= ahead, 0, at, 1, api.ErrOrder)
		ahead = int64(a.Code)
		note(a.Name != "n", 0, at, 2, api.ErrName)
		note(a.Kind > 4, 0, at, 3, api.ErrKind)
		if a.Parent == 0 {
			continue
		}
		parent, there := by[a.Parent]
		note(!there, 1, at, 0, api.ErrNone)
		note(there && parent.Kind != a.Kind, 1, at, 1, api.ErrKind)
		deep := 0
		for on := true; on && deep < 1000; deep++ {
			a, on = by[a.Parent]
		}
		note(deep > 12, 1, at, 2, api.ErrDeep)
	}
	return l
}

// first: the fault that is named first; OK of none.
func first(l []fault) api.Errno {
	if len(l) == 0 {
		return api.OK
	}
	return slices.MinFunc(l, func(a, b fault) int {
		return slices.Compare([]int{a.pass, a.at, a.rank}, []int{b.pass, b.at, b.rank})
	}).err
}

// Charts with some faults, by chance, held against another way to look for them.
func TestP6_1CheckMany(t *testing.T) {
	r := rand.New(rand.NewSource(6))
	seen := map[api.Errno]int{}
	for range 60000 {
		c := some(r)
		for range r.Intn(4) {
			spoil(r, c)
		}
		want := first(faults(c))
		seen[want]++
		if got := c.Check(); got != want {
			t.Fatalf("Check of %v: %d, not %d", c, got, want)
		}
	}
	for _, e := range []api.Errno{api.OK, api.ErrRange, api.ErrOrder, api.ErrName, api.ErrKind, api.ErrNone, api.ErrDeep} {
		if seen[e] < 500 {
			t.Errorf("just %d charts were of error %d", seen[e], e)
		}
	}
}

// some: a chart by chance, that may be but for its deepness.
func some(r *rand.Rand) Chart {
	c := flat(1 + r.Intn(24))
	spread := uint32(1 + r.Intn(3))
	for at := range c {
		if r.Intn(8) > 0 {
			c[at].Parent = uint32(max(0, at-r.Intn(3))) * spread
		}
		c[at].Code *= spread
	}
	return c
}

// spoil: another account at some place.
func spoil(r *rand.Rand, c Chart) {
	a := &c[r.Intn(len(c))]
	switch r.Intn(6) {
	case 0:
		a.Code = []uint32{0, api.MaxCode + 1, a.Code + 1, a.Code - 1}[r.Intn(4)]
	case 1:
		a.Name = "n "
	case 2:
		a.Kind = Kind(r.Intn(7))
	case 3, 4:
		a.Parent = c[r.Intn(len(c))].Code
	case 5:
		a.Parent = 999
	}
}

func TestP6_2Find(t *testing.T) {
	for _, c := range each(edges, func(int) uint32 { return 0 }) {
		guarded, same := guard(c)
		for _, code := range asked() {
			below, there, want := 0, false, Account{}
			for _, a := range c {
				if a.Code < code {
					below++
				}
				if a.Code == code {
					there, want = true, a
				}
			}
			if at, ok := guarded.Find(code); at != below || ok != there {
				t.Fatalf("Find(%d) of %v: %d, %t, not %d, %t", code, c, at, ok, below, there)
			}
			if a, ok := guarded.Get(code); a != want || ok != there {
				t.Fatalf("Get(%d) of %v: %v, %t, not %v, %t", code, c, a, ok, want, there)
			}
		}
		if !same() {
			t.Fatal("Find or Get changed the chart")
		}
	}
}

func TestP6_2FindInMany(t *testing.T) {
	c := flat(api.MaxAccounts)
	for at := range c {
		c[at].Code *= 3
	}
	for code := range uint32(3*api.MaxAccounts + 10) {
		at, ok := c.Find(code)
		there := code%3 == 0 && code >= 3 && code <= 3*api.MaxAccounts
		want := min((max(int(code), 1)-1)/3, api.MaxAccounts)
		if at != want || ok != there {
			t.Errorf("Find(%d): %d, %t, not %d, %t", code, at, ok, want, there)
		}
	}
}

func TestP6_2WayKnown(t *testing.T) {
	c := Chart{{1, "a", Asset, 0}, {2, "b", Asset, 1}, {3, "c", Asset, 2}, {7, "d", Asset, 9}, {8, "e", Asset, 7}, {api.MaxCode, "f", Asset, 3}}
	for _, x := range []struct {
		code uint32
		want []uint32
	}{
		{1, []uint32{1}},
		{2, []uint32{2, 1}},
		{3, []uint32{3, 2, 1}},
		{api.MaxCode, []uint32{api.MaxCode, 3, 2, 1}},
		// One that lies in one that isn't there.
		{7, []uint32{7}},
		{8, []uint32{8, 7}},
		// None that is there.
		{0, nil}, {4, nil}, {9, nil}, {api.MaxCode + 1, nil}, {math.MaxUint32, nil},
	} {
		holdCodes(t, fmt.Sprintf("Way(%d)", x.code), c.Way(x.code), x.want)
	}
}

func TestP6_2WayOfRows(t *testing.T) {
	for n := 1; n <= 30; n++ {
		c := row(n)
		for code := uint32(1); code <= uint32(n); code++ {
			var want []uint32
			for up := code; up >= 1 && len(want) < 13; up-- {
				want = append(want, up)
			}
			holdCodes(t, fmt.Sprintf("Way(%d) in a row of %d", code, n), c.Way(code), want)
		}
	}
}

func TestP6_2WayOfRings(t *testing.T) {
	for n := 1; n <= 30; n++ {
		ring := row(n)
		ring[0].Parent = uint32(n)
		for code := range n {
			var want []uint32
			for i := range 13 {
				want = append(want, uint32((code-i+30*n)%n)+1)
			}
			holdCodes(t, fmt.Sprintf("Way(%d) in a ring of %d", code+1, n), ring.Way(uint32(code)+1), want)
		}
	}
}

// An account whose Parent is 0 lies in none, though one have the code 0.
func TestP6_2WayEndsAtNone(t *testing.T) {
	c := Chart{{0, "a", Asset, 0}, {1, "b", Asset, 0}, {2, "c", Asset, 1}}
	holdCodes(t, "Way(0)", c.Way(0), []uint32{0})
	holdCodes(t, "Way(2)", c.Way(2), []uint32{2, 1})
	if !c.Within(0, 0) || c.Within(1, 0) || c.Within(2, 0) || !c.Within(2, 1) {
		t.Error("Within, where an account has the code 0")
	}
}

func TestP6_2WithinKnown(t *testing.T) {
	c := Chart{{1, "a", Asset, 0}, {2, "b", Asset, 1}, {3, "c", Asset, 2}, {4, "d", Asset, 1}, {7, "e", Asset, 9}}
	within := map[[2]uint32]bool{
		{1, 1}: true, {2, 2}: true, {3, 3}: true, {4, 4}: true, {7, 7}: true,
		{2, 1}: true, {3, 2}: true, {3, 1}: true, {4, 1}: true,
	}
	for _, code := range []uint32{0, 1, 2, 3, 4, 5, 7, 9, math.MaxUint32} {
		for _, outer := range []uint32{0, 1, 2, 3, 4, 5, 7, 9, math.MaxUint32} {
			if got := c.Within(code, outer); got != within[[2]uint32{code, outer}] {
				t.Errorf("Within(%d, %d): %t", code, outer, got)
			}
		}
	}
}

// On a Way there are MaxDeep codes and one at most: what is further off isn't told.
func TestP6_2WithinRows(t *testing.T) {
	c := row(30)
	for code := uint32(1); code <= 30; code++ {
		for outer := uint32(1); outer <= 30; outer++ {
			if got, want := c.Within(code, outer), outer <= code && code-outer <= 12; got != want {
				t.Errorf("Within(%d, %d) in a row: %t", code, outer, got)
			}
		}
	}
	ring := row(3)
	ring[0].Parent = 3
	for code := range uint32(5) {
		for outer := range uint32(5) {
			if got, want := ring.Within(code, outer), code >= 1 && code <= 3 && outer >= 1 && outer <= 3; got != want {
				t.Errorf("Within(%d, %d) in a ring: %t", code, outer, got)
			}
		}
	}
}

func TestP6_2KidsKnown(t *testing.T) {
	c := Chart{{1, "a", Asset, 0}, {2, "b", Asset, 1}, {3, "c", Asset, 8}, {5, "d", Asset, 1}, {8, "e", Income, 1}, {9, "f", Asset, 9}, {11, "g", Asset, 2}, {12, "h", Asset, 77}, {13, "i", Asset, 0}}
	for _, x := range []struct {
		code uint32
		want []uint32
	}{
		{1, []uint32{2, 5, 8}},
		{2, []uint32{11}},
		{8, []uint32{3}},
		{9, []uint32{9}},
		{3, nil}, {5, nil}, {11, nil}, {13, nil},
		// Those whose Parent isn't there, and those that lie in none.
		{77, []uint32{12}},
		{0, []uint32{1, 13}},
		{4, nil}, {math.MaxUint32, nil}, {1<<16 + 1, nil},
	} {
		holdCodes(t, fmt.Sprintf("Kids(%d)", x.code), c.Kids(x.code), x.want)
	}
}

// All ways in which four accounts may lie in one another, or in one that isn't there, held against a map.
func TestP6_2EachOfFour(t *testing.T) {
	codes := []uint32{2, 3, 5, api.MaxCode}
	parents := []uint32{0, 2, 3, 5, api.MaxCode, 4}
	for n := range 6 * 6 * 6 * 6 {
		c, in := Chart{}, map[uint32]uint32{}
		for i, code := range codes {
			parent := parents[n%6]
			n /= 6
			c = append(c, Account{code, "n", Kind(i), parent})
			in[code] = parent
		}
		guarded, same := guard(c)
		for _, code := range parents {
			holdLies(t, guarded, in, code)
		}
		if !same() {
			t.Fatal("Way, Within or Kids changed the chart")
		}
	}
}

// holdLies holds Way, Within and Kids of one code against a map that tells in what each account lies.
func holdLies(t *testing.T, c Chart, in map[uint32]uint32, code uint32) {
	t.Helper()
	var way, kids []uint32
	for at := code; len(way) < 13; at = in[at] {
		if _, there := in[at]; !there {
			break
		}
		way = append(way, at)
	}
	for other, parent := range in {
		if parent == code {
			kids = append(kids, other)
		}
		if got := c.Within(code, other); got != slices.Contains(way, other) {
			t.Fatalf("Within(%d, %d) of %v: %t", code, other, c, got)
		}
	}
	slices.Sort(kids)
	holdCodes(t, fmt.Sprintf("Way(%d) of %v", code, c), c.Way(code), way)
	holdCodes(t, fmt.Sprintf("Kids(%d) of %v", code, c), c.Kids(code), kids)
}

// holdChart holds a chart that came of another one against what it must be; that one stays as it was.
func holdChart(t *testing.T, what string, c Chart, call func(Chart) Chart, want Chart) {
	t.Helper()
	guarded, same := guard(c)
	got := call(guarded)
	if !slices.Equal(got, want) {
		t.Fatalf("%s of %v: %v, not %v", what, c, got, want)
	}
	if !same() {
		t.Fatalf("%s of %v changed it, or its spare room", what, c)
	}
}

// kept: the accounts of a chart of which a thing is so.
func kept(c Chart, is func(Account) bool) Chart {
	var l Chart
	for _, a := range c {
		if is(a) {
			l = append(l, a)
		}
	}
	return l
}

func TestP6_2WithoutAndWith(t *testing.T) {
	for _, c := range each(edges[:8], func(at int) uint32 { return edges[(at*5+1)%12] }) {
		for _, code := range append(asked()[:24], math.MaxUint32) {
			below := kept(c, func(a Account) bool { return a.Code < code })
			above := kept(c, func(a Account) bool { return a.Code > code })
			without := func(c Chart) Chart { return c.Without(code) }
			holdChart(t, fmt.Sprintf("Without(%d)", code), c, without, slices.Concat(below, above))
			// With it, whatever it be.
			for _, a := range []Account{{code, "new", Income, 7}, {code, "", 200, code}, {Code: code}} {
				with := func(c Chart) Chart { return c.With(a) }
				holdChart(t, fmt.Sprintf("With(%v)", a), c, with, slices.Concat(below, Chart{a}, above))
			}
		}
	}
}

func TestP6_2WithoutAndWithOfMany(t *testing.T) {
	var c Chart
	for _, a := range flat(api.MaxAccounts) {
		c = c.With(a)
	}
	if !slices.Equal(c, flat(api.MaxAccounts)) {
		t.Fatal("With, account by account, rising")
	}
	turned := Chart{}
	for _, a := range slices.Backward(c) {
		turned = turned.With(a)
	}
	if !slices.Equal(turned, c) {
		t.Fatal("With, account by account, falling")
	}
	// With and Without ask nothing of a chart's size.
	more := c.With(plain(api.MaxAccounts+1, 0))
	if !slices.Equal(more, flat(api.MaxAccounts+1)) {
		t.Error("With one more than may be")
	}
	for code := api.MaxAccounts; code >= 1; code-- {
		c = c.Without(uint32(code))
		if !slices.Equal(c, flat(code-1)) {
			t.Fatalf("Without, account by account, down to %d", code)
		}
	}
}

func TestP6_2Moved(t *testing.T) {
	c := Chart{{1, "a", Asset, 0}, {2, "b", Income, 1}, {3, "c", Asset, 2}, {5, "d", Asset, 1}, {8, "e", Expense, 8}, {9, "f", Asset, 77}}
	for _, from := range []uint32{0, 1, 2, 3, 8, 77, 78, math.MaxUint32} {
		for _, to := range []uint32{0, 1, 2, 3, 8, 77, 1000, math.MaxUint32} {
			want := slices.Clone(c)
			for at, a := range c {
				if a.Parent == from {
					want[at] = Account{a.Code, a.Name, a.Kind, to}
				}
			}
			moved := func(c Chart) Chart { return c.Moved(from, to) }
			holdChart(t, fmt.Sprintf("Moved(%d, %d)", from, to), c, moved, want)
		}
	}
}

// A nil chart is one of no accounts.
func TestP6_2OfNone(t *testing.T) {
	for _, none := range []Chart{nil, {}} {
		for _, code := range []uint32{0, 1, api.MaxCode, math.MaxUint32} {
			if at, ok := none.Find(code); at != 0 || ok {
				t.Errorf("Find(%d): %d, %t", code, at, ok)
			}
			if a, ok := none.Get(code); a != (Account{}) || ok {
				t.Errorf("Get(%d): %v, %t", code, a, ok)
			}
			if none.Within(code, code) || none.Within(code, 0) {
				t.Errorf("Within(%d): true", code)
			}
			if n := len(none.Way(code)) + len(none.Kids(code)) + len(none.Without(code)) + len(none.Moved(code, 1)); n != 0 {
				t.Errorf("Way, Kids, Without, Moved of %d: %d in all", code, n)
			}
			if a := plain(code, 3); !slices.Equal(none.With(a), Chart{a}) {
				t.Errorf("With(%v): %v", a, none.With(a))
			}
		}
	}
}

// R5: what came of a chart is not changed by what else comes of it.
func TestP2ChartsStandApart(t *testing.T) {
	base, same := guard(row(5))
	one, other := base.With(plain(6, 0)), base.With(plain(7, 0))
	less, moved := base.Without(3), base.Moved(1, 5)
	_, _, _ = less.With(plain(4, 0)), less.Without(1), moved.Without(2)
	_, _ = moved.With(plain(9, 1)), less.Moved(1, 9)
	if !slices.Equal(one, append(row(5), plain(6, 0))) || !slices.Equal(other, append(row(5), plain(7, 0))) {
		t.Errorf("With, twice of one chart: %v, %v", one, other)
	}
	if !slices.Equal(less, Chart{plain(1, 0), plain(2, 1), plain(4, 3), plain(5, 4)}) {
		t.Errorf("Without: %v", less)
	}
	if !slices.Equal(moved, Chart{plain(1, 0), plain(2, 5), plain(3, 2), plain(4, 3), plain(5, 4)}) {
		t.Errorf("Moved: %v", moved)
	}
	if !same() {
		t.Error("the chart changed, or its spare room")
	}
}

// R5, R6: Way and Kids are new memory, and the same each time.
func TestP2WayAndKidsAreNew(t *testing.T) {
	c := row(8)
	c[7].Parent = 1
	for range 3 {
		way, kids := c.Way(7), c.Kids(1)
		holdCodes(t, "Way(7)", way, []uint32{7, 6, 5, 4, 3, 2, 1})
		holdCodes(t, "Kids(1)", kids, []uint32{2, 8})
		clear(way[:cap(way)])
		clear(kids[:cap(kids)])
	}
}
