package lex

import (
	"fmt"
	"slices"
	"strconv"
	"strings"
	"sync"
	"testing"
	"unsafe"

	"transposal/api"
	"transposal/day"
)

// The first and the last day that there are: January 1 of year 1, December 31 of year 9999.
const (
	firstDay day.Day = -719162
	lastDay  day.Day = 2932896
)

// A token of each kind, from a place on.
func aWord(at int, s string) Token            { return Token{Kind: Word, Text: s, At: at} }
func aNumber(at int, s string, n int64) Token { return Token{Kind: Number, Text: s, Num: n, At: at} }
func aDate(at int, s string, n day.Day) Token { return Token{Kind: Date, Text: s, Day: n, At: at} }
func aText(at int, s string) Token            { return Token{Kind: Text, Text: s, At: at} }
func aSign(at int, s string) Token            { return Token{Kind: Sign, Text: s, At: at} }

// holdTokens: a text is split into just these tokens, and the end behind them.
func holdTokens(t *testing.T, s string, want ...Token) {
	t.Helper()
	want = append(slices.Clone(want), Token{At: len(s)})
	got, at, e := Split(s)
	if at != 0 || e != api.OK {
		t.Fatalf("Split(%s): place %d, error %d, not tokens", short(s), at, e)
	}
	for i := range min(len(got), len(want)) {
		if got[i] != want[i] {
			t.Fatalf("Split(%s): token %d is %s, not %s", short(s), i, told(got[i]), told(want[i]))
		}
	}
	if len(got) != len(want) {
		t.Fatalf("Split(%s): %d tokens, not %d", short(s), len(got), len(want))
	}
}

// holdError: a text goes wrong at a place, and there are no tokens.
func holdError(t *testing.T, s string, place int, want api.Errno) {
	t.Helper()
	if got, at, e := Split(s); len(got) != 0 || at != place || e != want {
		t.Fatalf("Split(%s): %d tokens, place %d, error %d, not none, %d, %d", short(s), len(got), at, e, place, want)
	}
}

// short: a text's beginning, in quotes.
func short(s string) string {
	return fmt.Sprintf("%.80q", s)
}

// told: a token.
func told(k Token) string {
	return fmt.Sprintf("{kind %d, %s, number %d, day %d, at %d}", k.Kind, short(k.Text), k.Num, k.Day, k.At)
}

// piece is a token's bytes, and what it is at place 0.
type piece struct {
	bytes string
	is    Token
}

// from: its token, from a place on.
func (p piece) from(at int) Token {
	p.is.At = at
	return p.is
}

// digits: does it begin, and end, with one?
func (p piece) digits() bool {
	return p.is.Kind == Number || p.is.Kind == Date
}

// joins: are two, with nothing between, not the two of them?
func (p piece) joins(other piece) bool {
	return p.is.Kind == Word && other.is.Kind == Word || p.digits() && other.digits()
}

// pieces: tokens of each kind, the shortest ones and others.
func pieces() []piece {
	l := []piece{
		{"2000-02-29", aDate(0, "2000-02-29", 11016)},
		{"1970-01-01", aDate(0, "1970-01-01", 0)},
		{"1969-12-31", aDate(0, "1969-12-31", -1)},
		{"0001-01-01", aDate(0, "0001-01-01", firstDay)},
		{"9999-12-31", aDate(0, "9999-12-31", lastDay)},
		{"0", aNumber(0, "0", 0)},
		{"7", aNumber(0, "7", 7)},
		{"10", aNumber(0, "10", 10)},
		{"1000000", aNumber(0, "1000000", 1000000)},
		{"9999999", aNumber(0, "9999999", 9999999)},
		{",", aSign(0, ",")},
		{";", aSign(0, ";")},
	}
	for _, s := range []string{"a", "z", "m", "to", "renumber", "calendar", "abcdefghijklmnopqrstuvwxyz"} {
		l = append(l, piece{s, aWord(0, s)})
	}
	for _, s := range []string{"", " ", "a", "Cash in bank 2", "# no note", ",;", "12", "-", "2000-02-29", "É ‐ 現金", "\xff\x00\t\r", "'"} {
		l = append(l, piece{`"` + s + `"`, aText(0, s)})
	}
	return l
}

// gaps: what may stand between tokens.
func gaps() []string {
	return []string{
		" ", "\n", "  ", "\n\n", " \n ", "#\n", "# a note\n", " # a note\n", "#\n#\n", "# one\n # two\n\n", "####\n", "#\"\n", "# \"text\" 00 1- - , ; A\n",
		"#é\xff\t\r\x00\n", "   #   \n   ", strings.Repeat(" ", 1000), strings.Repeat("\n", 1000), strings.Repeat("#\n", 1000), "#" + strings.Repeat("-", 1000) + "\n",
	}
}

func TestP12_1Example(t *testing.T) {
	holdTokens(t, "to 12;", aWord(0, "to"), aNumber(3, "12", 12), aSign(5, ";"))
}

func TestP12_1Scripts(t *testing.T) {
	holdTokens(t, "renumber 1 to 2;",
		aWord(0, "renumber"), aNumber(9, "1", 1), aWord(11, "to"), aNumber(14, "2", 2), aSign(15, ";"))
	holdTokens(t, "split 1 into 2 3, 4 1;\n",
		aWord(0, "split"), aNumber(6, "1", 1), aWord(8, "into"), aNumber(13, "2", 2), aNumber(15, "3", 3), aSign(16, ","),
		aNumber(18, "4", 4), aNumber(20, "1", 1), aSign(21, ";"))
	holdTokens(t, "# the new chart\nrename 10 \"Cash. In bank\"; # and not # Bank\n\nreparent 20 under 0;",
		aWord(16, "rename"), aNumber(23, "10", 10), aText(26, "Cash. In bank"), aSign(41, ";"),
		aWord(61, "reparent"), aNumber(70, "20", 20), aWord(73, "under"), aNumber(79, "0", 0), aSign(80, ";"))
	holdTokens(t, "calendar 2000-01-01 2000-02-29 until 2001-01-01;",
		aWord(0, "calendar"), aDate(9, "2000-01-01", 10957), aDate(20, "2000-02-29", 11016), aWord(31, "until"), aDate(37, "2001-01-01", 11323), aSign(47, ";"))
	holdTokens(t, "merge 999999 into 1000000;recode 999 to 1;join 2 into 3;",
		aWord(0, "merge"), aNumber(6, "999999", 999999), aWord(13, "into"), aNumber(18, "1000000", 1000000), aSign(25, ";"),
		aWord(26, "recode"), aNumber(33, "999", 999), aWord(37, "to"), aNumber(40, "1", 1), aSign(41, ";"),
		aWord(42, "join"), aNumber(47, "2", 2), aWord(49, "into"), aNumber(54, "3", 3), aSign(55, ";"))
	// What is no script for whoever reads it is split all the same.
	holdTokens(t, ";;,to;\"x\"7", aSign(0, ";"), aSign(1, ";"), aSign(2, ","), aWord(3, "to"), aSign(5, ";"), aText(6, "x"), aNumber(9, "7", 7))
}

// Texts without tokens: the end alone, behind all of it.
func TestP12_1NoTokens(t *testing.T) {
	holdTokens(t, "")
	for _, s := range gaps() {
		holdTokens(t, s)
		for _, other := range gaps() {
			holdTokens(t, s+other)
		}
		for _, note := range []string{"#", "# a note", "##", "#\"", "# 00 -", "#\xff", "#\r", "# \t"} {
			holdTokens(t, note)
			holdTokens(t, s+note)
		}
	}
}

// Each token by itself, and at the beginning and the end of texts.
func TestP12_1EachAlone(t *testing.T) {
	for _, p := range pieces() {
		holdTokens(t, p.bytes, p.from(0))
		holdTokens(t, p.bytes+"#", p.from(0))
		holdTokens(t, p.bytes+"# a note without an end", p.from(0))
		for _, gap := range gaps() {
			holdTokens(t, gap+p.bytes, p.from(len(gap)))
			holdTokens(t, p.bytes+gap, p.from(0))
			holdTokens(t, gap+p.bytes+gap, p.from(len(gap)))
		}
	}
}

// Each token behind each other one, with all that may stand between, and with nothing.
func TestP12_1EachPair(t *testing.T) {
	for _, p := range pieces() {
		for _, other := range pieces() {
			for _, gap := range gaps() {
				holdTokens(t, p.bytes+gap+other.bytes, p.from(0), other.from(len(p.bytes)+len(gap)))
			}
			if p.joins(other) {
				continue
			}
			holdTokens(t, p.bytes+other.bytes, p.from(0), other.from(len(p.bytes)))
			if !other.joins(p) {
				holdTokens(t, p.bytes+other.bytes+p.bytes, p.from(0), other.from(len(p.bytes)), p.from(len(p.bytes)+len(other.bytes)))
			}
		}
	}
}

// With nothing between, words are one word, digits are one number, a day and digits are neither.
func TestP12_1Joined(t *testing.T) {
	holdTokens(t, "into"+"to", aWord(0, "intoto"))
	holdTokens(t, "12"+"34567", aNumber(0, "1234567", 1234567))
	holdTokens(t, "2000-02-2"+"9", aDate(0, "2000-02-29", 11016))
	holdTokens(t, "to12to34", aWord(0, "to"), aNumber(2, "12", 12), aWord(4, "to"), aNumber(6, "34", 34))
	holdTokens(t, "1e5", aNumber(0, "1", 1), aWord(1, "e"), aNumber(2, "5", 5))
	holdTokens(t, "0x1", aNumber(0, "0", 0), aWord(1, "x"), aNumber(2, "1", 1))
	holdError(t, "2000-02-29"+"0", 0, api.ErrDay)
	holdError(t, "12"+"2000-02-29", 0, api.ErrDay)
	holdError(t, "1234567"+"8", 0, api.ErrRange)
	holdError(t, "0"+"7", 0, api.ErrRange)
}

// Numbers: each of up to five digits, some of six and seven, the edges of each length.
func TestP12_1Numbers(t *testing.T) {
	hold := func(n int64) {
		t.Helper()
		s := strconv.FormatInt(n, 10)
		holdTokens(t, s, aNumber(0, s, n))
	}
	for n := range int64(100000) {
		hold(n)
	}
	for n := int64(100000); n <= 9999999; n += 997 {
		hold(n)
	}
	for ten := int64(1); ten <= 1000000; ten *= 10 {
		hold(ten)
		hold(ten + 1)
		hold(ten*10 - 1)
	}
}

// Days: each of four years and of the first and the last one, by the texts that they have.
func TestP12_1Days(t *testing.T) {
	hold := func(n day.Day) {
		t.Helper()
		holdTokens(t, n.Text(), aDate(0, n.Text(), n))
		holdTokens(t, "until "+n.Text()+";", aWord(0, "until"), aDate(6, n.Text(), n), aSign(16, ";"))
	}
	for n := range day.Day(366) {
		hold(firstDay + n)
		hold(lastDay - n)
	}
	for n := range day.Day(4*365 + 1) {
		hold(n - 730)
	}
	for n := firstDay; n < lastDay; n += 1009 {
		hold(n)
	}
}

// Texts: each byte within quotes but a quote and a line feed, and a note's and signs' bytes.
func TestP12_1Texts(t *testing.T) {
	for b := range 256 {
		if b == '"' || b == '\n' {
			continue
		}
		for _, inside := range []string{string([]byte{byte(b)}), "a" + string([]byte{byte(b)}), string([]byte{byte(b)}) + "a", "# " + string([]byte{byte(b), byte(b)})} {
			holdTokens(t, `"`+inside+`"`, aText(0, inside))
			holdTokens(t, `a"`+inside+`"1`, aWord(0, "a"), aText(1, inside), aNumber(len(inside)+3, "1", 1))
		}
	}
	holdTokens(t, `""`, aText(0, ""))
	holdTokens(t, `""""`, aText(0, ""), aText(2, ""))
	holdTokens(t, `"a""b"`, aText(0, "a"), aText(3, "b"))
	holdTokens(t, `"a" "b"`, aText(0, "a"), aText(4, "b"))
	holdTokens(t, "\"a\"\n\"b\"", aText(0, "a"), aText(4, "b"))
	// A backslash is a byte as others: the quote behind it ends the text.
	holdTokens(t, `"a\"`, aText(0, `a\`))
	holdTokens(t, `"a#"#"`, aText(0, "a#"))
}

// A note goes up to the line's end, and no farther; a quote in it opens nothing.
func TestP12_1Notes(t *testing.T) {
	holdTokens(t, "to#12\n;", aWord(0, "to"), aSign(6, ";"))
	holdTokens(t, "to#\"\n;", aWord(0, "to"), aSign(5, ";"))
	holdTokens(t, "#\nto", aWord(2, "to"))
	holdTokens(t, "#\n\nto", aWord(3, "to"))
	holdTokens(t, "# a\r; b\nto", aWord(8, "to"))
	holdTokens(t, "#a#b\nto#c", aWord(5, "to"))
	holdTokens(t, "1#\n2#\n#3\n4", aNumber(0, "1", 1), aNumber(3, "2", 2), aNumber(9, "4", 4))
	for b := range 256 {
		note := "#" + string([]byte{byte(b)})
		if b == '\n' {
			holdTokens(t, note+"a", aWord(2, "a"))
			continue
		}
		holdTokens(t, note+"a")
		holdTokens(t, note+"a\na", aWord(4, "a"))
	}
}

// As many bytes as may be: of one token, of many, of none.
func TestP12_1Size(t *testing.T) {
	const most = 65536
	for _, gap := range []string{" ", "\n"} {
		holdTokens(t, strings.Repeat(gap, most))
	}
	holdTokens(t, strings.Repeat("#\n", most/2))
	holdTokens(t, "#"+strings.Repeat("x", most-1))
	long := strings.Repeat("a", most)
	holdTokens(t, long, aWord(0, long))
	holdTokens(t, `"`+long[2:]+`"`, aText(0, long[2:]))
	holdTokens(t, strings.Repeat(" ", most-1)+"a", aWord(most-1, "a"))
	holdTokens(t, "a"+strings.Repeat(" ", most-1), aWord(0, "a"))
	for _, p := range []piece{{",", aSign(0, ",")}, {`""`, aText(0, "")}, {"a ", aWord(0, "a")}, {"1\n", aNumber(0, "1", 1)}, {"a1", aWord(0, "a")}} {
		var want []Token
		for at := 0; at < most; at += len(p.bytes) {
			want = append(want, p.from(at))
			if p.bytes == "a1" {
				want = append(want, aNumber(at+1, "1", 1))
			}
		}
		holdTokens(t, strings.Repeat(p.bytes, most/len(p.bytes)), want...)
	}
}

// What is answered hangs on the text alone, and is memory of its own.
func TestP12_1Memory(t *testing.T) {
	const script = `rename 12 "Cash"; calendar 2000-02-29 until 2001-01-01; # done`
	b := []byte(script)
	got, _, e := Split(unsafe.String(&b[0], len(b)))
	if string(b) != script || e != api.OK {
		t.Fatalf("Split changed its text: %q, %d", b, e)
	}
	want, _, _ := Split(script)
	clear(b)
	if !slices.Equal(got, want) {
		t.Errorf("the tokens share the text's memory: %v", got)
	}
	// Answers changed behind their back, spare room included, show in no other one.
	clear(got[:cap(got)])
	again, _, _ := Split(script)
	if !slices.Equal(again, want) {
		t.Errorf("a second Split: %v, not %v", again, want)
	}
	var all sync.WaitGroup
	for range 8 {
		all.Go(func() {
			for range 100 {
				if l, at, e := Split(script); !slices.Equal(l, want) || at != 0 || e != api.OK {
					t.Errorf("at the same time: %v, %d, %d", l, at, e)
				}
			}
		})
	}
	all.Wait()
}

// The kinds' numbers, in the chapter's order.
func TestP12_1Kinds(t *testing.T) {
	if got, want := []Kind{End, Word, Number, Date, Text, Sign}, []Kind{0, 1, 2, 3, 4, 5}; !slices.Equal(got, want) {
		t.Errorf("the kinds are %v, not %v", got, want)
	}
}
