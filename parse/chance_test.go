package parse

import (
	"maps"
	"math/rand"
	"regexp"
	"slices"
	"strconv"
	"strings"
	"testing"
	"time"

	"transposal/api"
	"transposal/day"
	"transposal/script"
)

// piece is a token that a text is made of: its bytes, its letter in a text's pattern, what is in it; or a fault of Split's.
type piece struct {
	bytes  string
	letter byte
	num    int64
	day    day.Day
	e      api.Errno
}

// Each word's letter: an op's is a capital one.
var letters = map[string]byte{
	"renumber": 'R', "rename": 'N', "reparent": 'P', "merge": 'M', "split": 'S', "recode": 'C', "join": 'J', "calendar": 'K',
	"to": 't', "under": 'u', "into": 'i', "until": 'l',
}

// aWord: a word that may stand in a text, or another one.
func aWord(s string) piece {
	letter, ok := letters[s]
	if !ok {
		letter = 'o'
	}
	return piece{bytes: s, letter: letter}
}

// aNumber: its letter tells what it may be.
func aNumber(n int64) piece {
	p := piece{bytes: strconv.FormatInt(n, 10), num: n}
	switch {
	case n == 0:
		p.letter = '0' // behind under
	case n <= 999:
		p.letter = 'e' // all but that
	case n <= 999999:
		p.letter = 'a' // an account, a weight
	case n == 1000000:
		p.letter = 'w' // a weight
	default:
		p.letter = 'x'
	}
	return p
}

// aDate: by the library's calendar.
func aDate(d day.Day) piece {
	return piece{bytes: time.Unix(int64(d)*86400, 0).UTC().Format("2006-01-02"), letter: 'd', day: d}
}

// aText: a text in quotes.
func aText(s string) piece {
	return piece{bytes: `"` + s + `"`, letter: 'q'}
}

// aSign: a comma or a semicolon.
func aSign(s string) piece {
	return piece{bytes: s, letter: s[0]}
}

// pattern: of letters, where A is an account's number, U one or 0, E an entity's, W a weight.
func pattern(s string) *regexp.Regexp {
	return regexp.MustCompile(strings.NewReplacer("A", "[ea]", "U", "[0ea]", "E", "e", "W", "[eaw]").Replace(s))
}

// A whole op; what one may begin with (and a comma behind its last part that may be); and that comma.
var (
	wholeOp   = pattern(`^(?:RAtA|MAiA|PAuU|CEtE|JEiE|NAq|SAiAW(?:,AW){0,7}|Kd*ld);`)
	begunOp   = pattern(`^(?:R(?:A(?:t(?:A;?)?)?)?|M(?:A(?:i(?:A;?)?)?)?|P(?:A(?:u(?:U;?)?)?)?|C(?:E(?:t(?:E;?)?)?)?|J(?:E(?:i(?:E;?)?)?)?|N(?:A(?:q;?)?)?|S(?:A(?:i(?:AW,){0,7}(?:A(?:W[,;]?)?)?)?)?|Kd*(?:l(?:d;?)?)?)$`)
	fullParts = pattern(`^SAi(?:AW,){8}$`)
)

// gathered: what Parse must answer of pieces that stand at places: by patterns over their letters. The last place is the end's.
func gathered(l []piece, places []int) (ops []script.Op, at int, e api.Errno) {
	line := ""
	for i, p := range l {
		if p.e != api.OK {
			return nil, places[i], p.e
		}
		line += string(p.letter)
	}
	from := 0
	for from < len(line) {
		size := len(wholeOp.FindString(line[from:]))
		if size == 0 || len(ops) == 100 {
			i, e := firstWrong(line[from:], len(ops))
			return nil, places[from+i], e
		}
		ops = append(ops, gatheredOp(l[from:from+size], places[from]))
		from += size
	}
	return ops, 0, api.OK
}

// firstWrong: of the letters from an op's beginning on, the first one that is wrong, and why; so many ops stand ahead of it.
func firstWrong(line string, ops int) (int, api.Errno) {
	if ops == 100 {
		return 0, api.ErrSize
	}
	right := 0
	for right < len(line) && begunOp.MatchString(line[:right+1]) {
		right++
	}
	switch {
	case right == 0:
		return 0, api.ErrWord
	case fullParts.MatchString(line[:right]):
		return right, api.ErrSize
	case right < len(line) && strings.ContainsAny(line[right:right+1], "0eawx") && begunOp.MatchString(line[:right]+"e"):
		// One and the same number may stand wherever a number may.
		return right, api.ErrRange
	}
	return right, api.ErrForm
}

// gatheredOp: the op of its pieces, which are whole, at a place.
func gatheredOp(l []piece, at int) script.Op {
	o := script.Op{At: at}
	for k := range script.Kinds {
		if "RNPMSCJK"[k] == l[0].letter {
			o.Kind = k
		}
	}
	var numbers []int64
	var days []day.Day
	for _, p := range l {
		switch p.letter {
		case 'd':
			days = append(days, p.day)
		case 'q':
			o.Name = strings.Trim(p.bytes, `"`)
		case '0', 'e', 'a', 'w':
			numbers = append(numbers, p.num)
		}
	}
	if len(days) > 0 {
		o.Calendar.Starts, o.Calendar.End = days[:len(days)-1], days[len(days)-1]
		return o
	}
	o.From = uint32(numbers[0])
	if l[0].letter == 'S' {
		for i := 1; i < len(numbers); i += 2 {
			o.Parts = append(o.Parts, script.Part{Code: uint32(numbers[i]), Weight: numbers[i+1]})
		}
	} else if len(numbers) > 1 {
		o.To = uint32(numbers[1])
	}
	return o
}

// apart: must two pieces have something between them?
func apart(a, b piece) bool {
	letter := func(p piece) bool { return 'a' <= p.bytes[0] && p.bytes[0] <= 'z' }
	digit := func(p piece) bool { return strings.Contains("-0123456789", p.bytes[:1]) }
	return letter(a) && letter(b) || digit(a) && digit(b) || a.e != api.OK || b.e != api.OK
}

// joined: pieces as a text, with gaps between as they come, and where each of them is; at last where the end is.
func joined(l []piece, gap func() string) (string, []int) {
	var s strings.Builder
	var places []int
	s.WriteString(gap())
	for i, p := range l {
		between := gap()
		if i == 0 {
			between = ""
		} else if between == "" && apart(l[i-1], p) || l[i-1].e != api.OK {
			// A text without an end on its line is one but for a line feed.
			between = "\n" + between
		}
		s.WriteString(between)
		places = append(places, s.Len())
		s.WriteString(p.bytes)
	}
	if len(l) > 0 && l[len(l)-1].e != api.OK {
		s.WriteString("\n")
	}
	s.WriteString(gap())
	text := s.String()
	return text, append(places, len(text))
}

// gapOf: gaps by chance, each often as it was last.
func gapOf(r *rand.Rand) func() string {
	all := append(gaps(), "", " ", " ", "\n", "# \"\n")
	gap := all[r.Intn(len(all))]
	return func() string {
		if r.Intn(4) == 0 {
			gap = all[r.Intn(len(all))]
		}
		return gap
	}
}

// holdGathered holds the text of pieces against what is gathered of them, and answers the error.
func holdGathered(t *testing.T, l []piece, gap func() string) api.Errno {
	t.Helper()
	s, places := joined(l, gap)
	if len(s) > 65536 {
		holdError(t, s, 0, api.ErrSize)
		return api.ErrSize
	}
	ops, at, e := gathered(l, places)
	if e == api.OK {
		holdOps(t, s, ops...)
	} else {
		holdError(t, s, at, e)
	}
	return e
}

// blank: the gap that is a blank.
func blank() string { return " " }

// others: pieces that may stand in the place of another one, of each sort.
func others() []piece {
	var l []piece
	for _, s := range slices.Sorted(maps.Keys(letters)) {
		l = append(l, aWord(s))
	}
	for _, s := range []string{"a", "script", "op", "mergeinto"} {
		l = append(l, aWord(s))
	}
	for _, n := range []int64{0, 1, 2, 998, 999, 1000, 65537, 999999, 1000000, 1000001, 9999999} {
		l = append(l, aNumber(n))
	}
	for _, d := range []day.Day{-719162, 0, 31, 2932896} {
		l = append(l, aDate(d))
	}
	for _, s := range []string{"", "Cash", "merge", ";", "7"} {
		l = append(l, aText(s))
	}
	return append(l, aSign(","), aSign(";"))
}

// faults: what Split finds wrong.
func faults() []piece {
	return []piece{
		{bytes: "A", e: api.ErrForm}, {bytes: "-", e: api.ErrForm}, {bytes: "\t", e: api.ErrForm}, {bytes: "é", e: api.ErrForm},
		{bytes: "1-", e: api.ErrDay}, {bytes: "2023-02-29", e: api.ErrDay}, {bytes: "0000-01-01", e: api.ErrDay},
		{bytes: "007", e: api.ErrRange}, {bytes: "12345678", e: api.ErrRange}, {bytes: "18446744073709551617", e: api.ErrRange},
		{bytes: `"`, e: api.ErrShort}, {bytes: `"Cash;`, e: api.ErrShort},
	}
}

// numberBy: from 1 to a greatest one, by chance, often at the edges.
func numberBy(r *rand.Rand, most int64) int64 {
	switch r.Intn(5) {
	case 0:
		return 1
	case 1:
		return most
	case 2:
		return 1 + r.Int63n(9)
	}
	return 1 + r.Int63n(most)
}

// nameBy: what may stand in quotes, by chance.
func nameBy(r *rand.Rand) string {
	signs := []rune("abcXYZ 0129..,;#-\\'\té現\x00\ufffd")
	name := ""
	for range r.Intn(12) {
		name += string(signs[r.Intn(len(signs))])
	}
	return name
}

// dayBy: one of all that there are, by chance.
func dayBy(r *rand.Rand) day.Day {
	return day.Day(r.Intn(2932896+719162+1) - 719162)
}

// opBy: an op's pieces, by chance.
func opBy(r *rand.Rand) []piece {
	account := func() piece { return aNumber(numberBy(r, 999999)) }
	entity := func() piece { return aNumber(numberBy(r, 999)) }
	switch k := script.Kind(r.Intn(int(script.Kinds))); k {
	case script.Rename:
		return []piece{aWord("rename"), account(), aText(nameBy(r)), aSign(";")}
	case script.Reparent:
		to := account()
		if r.Intn(3) == 0 {
			to = aNumber(0)
		}
		return []piece{aWord("reparent"), account(), aWord("under"), to, aSign(";")}
	case script.Split:
		l := []piece{aWord("split"), account(), aWord("into")}
		for range r.Intn(8) {
			l = append(l, account(), aNumber(numberBy(r, 1000000)), aSign(","))
		}
		return append(l, account(), aNumber(numberBy(r, 1000000)), aSign(";"))
	case script.Periods:
		l := []piece{aWord("calendar")}
		for range r.Intn(6) {
			l = append(l, aDate(dayBy(r)))
		}
		return append(l, aWord("until"), aDate(dayBy(r)), aSign(";"))
	case script.Recode, script.Join:
		return []piece{aWord(k.Word()), entity(), aWord(k.Link()), entity(), aSign(";")}
	default:
		return []piece{aWord(k.Word()), account(), aWord(k.Link()), account(), aSign(";")}
	}
}

// scriptBy: so many ops' pieces, by chance.
func scriptBy(r *rand.Rand, ops int) []piece {
	var l []piece
	for range ops {
		l = append(l, opBy(r)...)
	}
	return l
}

// cut: pieces without one.
func cut(l []piece, i int) []piece {
	return append(append([]piece{}, l[:i]...), l[i+1:]...)
}

// put: pieces with more at a place.
func put(l []piece, i int, more ...piece) []piece {
	return append(append(append([]piece{}, l[:i]...), more...), l[i:]...)
}

// turned: pieces with one in the place of another.
func turned(l []piece, i int, p piece) []piece {
	return put(cut(l, i), i, p)
}

// holdSeen: of all errors that Parse has, and of none, there was something.
func holdSeen(t *testing.T, seen map[api.Errno]int, of ...api.Errno) {
	t.Helper()
	for _, e := range of {
		if seen[e] < 10 {
			t.Errorf("too few of error %d: %v", e, seen)
		}
	}
}

// fullSplit: the pieces of a split of so many parts.
func fullSplit(parts int) []piece {
	l := []piece{aWord("split"), aNumber(7), aWord("into")}
	for i := range parts {
		if i > 0 {
			l = append(l, aSign(","))
		}
		l = append(l, aNumber(int64(i+1)), aNumber(int64(100*i+1)))
	}
	return append(l, aSign(";"))
}

// At each place of each kind's form each piece taken out, put in, put in the place of another; and the text's end there.
func TestP14_1OneOff(t *testing.T) {
	forms := [][]piece{fullSplit(1), fullSplit(2), fullSplit(8), fullSplit(9)}
	r := rand.New(rand.NewSource(141))
	for range 60 {
		forms = append(forms, opBy(r))
	}
	merge := []piece{aWord("merge"), aNumber(1), aWord("into"), aNumber(2), aSign(";")}
	seen := map[api.Errno]int{}
	for _, form := range forms {
		for _, behind := range [][]piece{nil, merge} {
			whole := put(form, len(form), behind...)
			seen[holdGathered(t, whole, blank)]++
			for i := range len(form) + 1 {
				seen[holdGathered(t, form[:i], blank)]++
				if i < len(form) {
					seen[holdGathered(t, cut(whole, i), blank)]++
				}
				for _, p := range append(others(), faults()...) {
					seen[holdGathered(t, put(whole, i, p), blank)]++
					seen[holdGathered(t, put(merge, len(merge), put(whole, i, p)...), blank)]++
					if i < len(form) {
						seen[holdGathered(t, turned(whole, i, p), blank)]++
					}
				}
			}
		}
	}
	holdSeen(t, seen, api.OK, api.ErrForm, api.ErrSize, api.ErrShort, api.ErrRange, api.ErrDay, api.ErrWord)
}

// All texts of up to three pieces, and all that go on from what an op begins with by two more.
func TestP14_1AllShort(t *testing.T) {
	beginnings := [][]piece{nil}
	all := others()
	for _, first := range all {
		beginnings = append(beginnings, []piece{first})
	}
	r := rand.New(rand.NewSource(142))
	for range 12 {
		op := opBy(r)
		for i := range op {
			beginnings = append(beginnings, op[:i+1])
		}
	}
	seen := map[api.Errno]int{}
	for _, l := range beginnings {
		for _, a := range all {
			one := put(l, len(l), a)
			seen[holdGathered(t, one, blank)]++
			for _, b := range all {
				seen[holdGathered(t, put(one, len(one), b), blank)]++
			}
		}
	}
	holdSeen(t, seen, api.OK, api.ErrForm, api.ErrRange, api.ErrWord)
}

// changedBy: pieces with one of them taken out, doubled, put elsewhere, put in the place of another, or one put in, by chance.
func changedBy(r *rand.Rand, l []piece, with []piece) []piece {
	p := with[r.Intn(len(with))]
	at := r.Intn(len(l) + 1)
	if at == len(l) {
		return put(l, at, p)
	}
	switch r.Intn(5) {
	case 0:
		return cut(l, at)
	case 1:
		return put(l, at, l[at])
	case 2:
		return put(cut(l, at), r.Intn(len(l)), l[at])
	case 3:
		return put(l, at, p)
	}
	return turned(l, at, p)
}

// Scripts by chance, with some pieces changed.
func TestP14_1ByChance(t *testing.T) {
	r := rand.New(rand.NewSource(143))
	seen := map[api.Errno]int{}
	for range 30000 {
		l := scriptBy(r, r.Intn(6))
		for range r.Intn(4) {
			with := others()
			if r.Intn(12) == 0 {
				with = faults()
			}
			l = changedBy(r, l, with)
		}
		seen[holdGathered(t, l, gapOf(r))]++
	}
	holdSeen(t, seen, api.OK, api.ErrForm, api.ErrShort, api.ErrRange, api.ErrDay, api.ErrWord)
}

// Scripts of about as many ops as may be, and splits of about as many parts, by chance.
func TestP14_1AroundTheLimits(t *testing.T) {
	r := rand.New(rand.NewSource(144))
	seen := map[api.Errno]int{}
	for range 600 {
		l := scriptBy(r, 97+r.Intn(6))
		for range r.Intn(3) {
			l = changedBy(r, l, others())
		}
		seen[holdGathered(t, l, gapOf(r))]++
		l = put(scriptBy(r, r.Intn(3)), 0, fullSplit(6+r.Intn(5))...)
		for range r.Intn(3) {
			l = changedBy(r, l, others())
		}
		seen[holdGathered(t, l, gapOf(r))]++
	}
	holdSeen(t, seen, api.OK, api.ErrForm, api.ErrSize, api.ErrRange, api.ErrWord)
}

// Texts of pieces by chance.
func TestP14_1PiecesByChance(t *testing.T) {
	r := rand.New(rand.NewSource(145))
	all := others()
	seen := map[api.Errno]int{}
	for range 30000 {
		var l []piece
		for range r.Intn(8) {
			l = append(l, all[r.Intn(len(all))])
		}
		seen[holdGathered(t, l, gapOf(r))]++
	}
	holdSeen(t, seen, api.OK, api.ErrForm, api.ErrWord)
}
