package lex

import (
	"strings"
	"testing"

	"transposal/api"
)

// fault is bytes that go wrong where they begin, and why.
type fault struct {
	bytes string
	e     api.Errno
}

// faults: of each kind, on one line each.
func faults() []fault {
	var l []fault
	add := func(e api.Errno, all ...string) {
		for _, s := range all {
			l = append(l, fault{s, e})
		}
	}
	add(api.ErrForm, "A", "Z", "-", "-1", "--", "-2000-02-29", "-a", "\t", "\r", "\x00", "\v", "\f", "\x7f", ".", ":", "'", "`", "(", "/", "=", "*", "_", "+1",
		"é", "\x80", "\xff", "\u00a0", "\u2028", "\ufeff", "１", "“a”")
	add(api.ErrRange, "00", "01", "07", "000", "010", "0000000", "0000001", "00000000", "10000000", "99999999", "12345678", "01234567",
		"4294967296", "4294967297", "9223372036854775807", "9223372036854775808", "18446744073709551616", "18446744073709551617", strings.Repeat("1", 1000), strings.Repeat("0", 1000))
	add(api.ErrDay, "1-", "0-", "1-2", "0-0", "1--", "12-34-56-", "2023-02-29", "1900-02-29", "2000-02-30", "2000-13-01", "2000-00-01", "2000-01-00", "2000-01-32", "2000-04-31",
		"0000-01-01", "0000-00-00", "10000-01-01", "02000-02-29", "2000-2-29", "2000-02-9", "2000-02-029", "2000-002-29", "999-01-01", "200002-29", "2000-0229",
		"2000-02", "2000-02-", "2000-02-2", "2000-02-290", "2000-02-29-", "2000--02-29", "2000-02--29", "2000-02-29-2000-02-29", "29-02-2000", "00-", "01-", "10000000-",
		"99999999999999999999-01-01", strings.Repeat("1-", 1000), "1"+strings.Repeat("-", 1000))
	add(api.ErrShort, `"`, `"a`, `" `, `"Cash`, `"# no note`, `"1;`, `"é`, "\"\xff", "\"a\t\r", `"\`, `"'`, `"`+strings.Repeat("a", 1000))
	return l
}

// Each fault alone, behind each gap and each token, and ahead of tokens; in a note it is none.
func TestP12_1EachFault(t *testing.T) {
	for _, f := range faults() {
		holdError(t, f.bytes, 0, f.e)
		holdTokens(t, "#"+f.bytes)
		for _, gap := range gaps() {
			holdError(t, gap+f.bytes, len(gap), f.e)
			holdError(t, f.bytes+"\n"+gap, 0, f.e)
			holdError(t, "#"+f.bytes+"\n"+gap+f.bytes, len("#"+f.bytes+"\n"+gap), f.e)
		}
		for _, p := range pieces() {
			holdError(t, p.bytes+" "+f.bytes, len(p.bytes)+1, f.e)
			holdError(t, p.bytes+"#\n"+f.bytes, len(p.bytes)+2, f.e)
			holdError(t, f.bytes+"\n"+p.bytes, 0, f.e)
			if !p.digits() || !strings.ContainsAny(f.bytes[:1], "-0123456789") {
				holdError(t, p.bytes+f.bytes, len(p.bytes), f.e)
			}
		}
	}
}

// Of two faults, in whichever order, the first one's place and error count.
func TestP12_1FirstFault(t *testing.T) {
	for _, f := range faults() {
		for _, other := range faults() {
			for _, gap := range []string{"\n", "\nto 12;", " # a note\n"} {
				holdError(t, f.bytes+gap+other.bytes, 0, f.e)
				holdError(t, "to 12;"+f.bytes+gap+other.bytes, 6, f.e)
			}
		}
	}
}

// Where a fault is within what stands around it.
func TestP12_1Places(t *testing.T) {
	for _, x := range []struct {
		s  string
		at int
		e  api.Errno
	}{
		{"to 012;", 3, api.ErrRange},
		{"split 1 into 2 3, 4 10000000;", 20, api.ErrRange},
		{"renumber 1 To 2;", 11, api.ErrForm},
		{"renumber 1 tO 2;", 12, api.ErrForm},
		{"renumber\t1 to 2;", 8, api.ErrForm},
		{"renumber 1 to 2;\r\n", 16, api.ErrForm},
		{"renumber 1 to -2;", 14, api.ErrForm},
		{"1 -2", 2, api.ErrForm},
		{"to-2", 2, api.ErrForm},
		{",-2", 1, api.ErrForm},
		{`"a"-2`, 3, api.ErrForm},
		{"2000-02-29 -", 11, api.ErrForm},
		{"2000 -02-29", 5, api.ErrForm},
		{"2000- 02-29", 0, api.ErrDay},
		{"2000-02-29-1", 0, api.ErrDay},
		{"calendar 2000-02-29 2001-02-29 until A;", 20, api.ErrDay},
		{"calendar 2000-02-29 until 2001-03-1;", 26, api.ErrDay},
		{"2000-02-29A", 10, api.ErrForm},
		{"2023-02-29A", 0, api.ErrDay},
		{"1-a", 0, api.ErrDay},
		{"1a-", 2, api.ErrForm},
		{"00a-", 0, api.ErrRange},
		{"rename 1 \"Cash;\n", 9, api.ErrShort},
		{"rename 1 \"Cash\nin bank\";", 9, api.ErrShort},
		{"rename 1 \"Cash\n\";", 9, api.ErrShort},
		{"\"\n\"", 0, api.ErrShort},
		{"\"a\n", 0, api.ErrShort},
		{"\"a\"\n\"", 4, api.ErrShort},
		{"\"a\" \"b\n\"", 4, api.ErrShort},
		{`"a""`, 3, api.ErrShort},
		{`"""`, 2, api.ErrShort},
		{`a"`, 1, api.ErrShort},
		{`1"a`, 1, api.ErrShort},
		{`;"`, 1, api.ErrShort},
		{`"A 00 1-`, 0, api.ErrShort},
		{`"A 00 1-" A 00 1-`, 10, api.ErrForm},
		{"# A 00 1- \"\n00 A 1- \"", 12, api.ErrRange},
		{"# a note\n1- A 00 \"", 9, api.ErrDay},
		{"\n\n # \n\"A 00 1-", 6, api.ErrShort},
	} {
		holdError(t, x.s, x.at, x.e)
	}
}

// Each byte alone, behind a token of each kind with and without a blank between, and ahead of one.
func TestP12_1EachByte(t *testing.T) {
	for b := range 256 {
		c := string([]byte{byte(b)})
		switch {
		case strings.Contains(" \n#", c):
			holdTokens(t, c)
			holdTokens(t, "to"+c, aWord(0, "to"))
			continue
		case strings.Contains("abcdefghijklmnopqrstuvwxyz", c):
			holdTokens(t, c, aWord(0, c))
			holdTokens(t, c+"1", aWord(0, c), aNumber(1, "1", 1))
			holdTokens(t, "to"+c, aWord(0, "to"+c))
			holdTokens(t, "12"+c, aNumber(0, "12", 12), aWord(2, c))
			continue
		case strings.Contains("0123456789", c):
			holdTokens(t, c, aNumber(0, c, int64(b-'0')))
			holdTokens(t, c+"a", aNumber(0, c, int64(b-'0')), aWord(1, "a"))
			holdTokens(t, "to"+c, aWord(0, "to"), aNumber(2, c, int64(b-'0')))
			holdTokens(t, "12"+c, aNumber(0, "12"+c, 120+int64(b-'0')))
			continue
		case strings.Contains(",;", c):
			holdTokens(t, c, aSign(0, c))
			holdTokens(t, "to"+c+"to", aWord(0, "to"), aSign(2, c), aWord(3, "to"))
			continue
		}
		e := api.ErrForm
		if c == `"` {
			e = api.ErrShort
		}
		holdError(t, c, 0, e)
		holdError(t, c+"a", 0, e)
		holdError(t, c+" ", 0, e)
		for _, p := range pieces() {
			holdError(t, p.bytes+" "+c, len(p.bytes)+1, e)
			if c != "-" || !p.digits() {
				holdError(t, p.bytes+c, len(p.bytes), e)
			}
		}
	}
}

// Above MaxText bytes it is their number that is wrong, whatever they are.
func TestP12_1TooLong(t *testing.T) {
	const most = 65536
	for _, piece := range []string{" ", "\n", "#", "a", "1", "0", "-", "1-", ",", ";", `"`, `""`, "A", "\xff", "é", "\t", "to 12;", "2000-02-29\n", "2023-02-29 "} {
		long := strings.Repeat(piece, 2*most)
		for _, size := range []int{most + 1, most + 2, most + 100, 2 * most} {
			holdError(t, long[:size], 0, api.ErrSize)
		}
	}
	// As many as may be are read: the fault is told wherever it is, the last byte's, too.
	for _, c := range []string{"A", "-", "\t", "\xff"} {
		holdError(t, strings.Repeat(c, most), 0, api.ErrForm)
		holdError(t, strings.Repeat(" ", most-1)+c, most-1, api.ErrForm)
		holdError(t, strings.Repeat(",", most-1)+c, most-1, api.ErrForm)
	}
	holdError(t, strings.Repeat("1", most), 0, api.ErrRange)
	holdError(t, strings.Repeat("0", most), 0, api.ErrRange)
	holdError(t, strings.Repeat(";", most-2)+"00", most-2, api.ErrRange)
	holdError(t, "1"+strings.Repeat("-", most-1), 0, api.ErrDay)
	holdError(t, strings.Repeat("\n", most-2)+"1-", most-2, api.ErrDay)
	holdError(t, `"`+strings.Repeat("a", most-1), 0, api.ErrShort)
	holdError(t, strings.Repeat(`"`, most-1), most-2, api.ErrShort)
	holdError(t, strings.Repeat("a", most-1)+`"`, most-1, api.ErrShort)
}
