package parse

import (
	"fmt"
	"strings"
	"testing"

	"transposal/api"
	"transposal/script"
)

// What Split finds wrong is handed on with its place, of each sort, wherever it stands.
func TestP14_1SplitsErrors(t *testing.T) {
	holdWrong(t, api.ErrForm, "^A", "^-", "^\t", "^\r", "^\xff", "^é", "renumber ^X", "renumber 1 ^To 2;", "renumber 1 to ^-2;", "merge 1 into 2^.", "merge 1 into 2;^\r\n", "rename 1 ^'a';", `rename 1 "a"^:`)
	holdWrong(t, api.ErrDay, "^1-", "^2023-02-29", "calendar ^2000-02-30 until 2001-01-01;", "calendar 2000-02-29 until ^2001-1-1;", "calendar until ^0000-01-01;", "calendar ^2000-02-29-2001-01-01 until 2002-01-01;", "renumber 1 to ^2-;")
	holdWrong(t, api.ErrRange, "^00", "^12345678", "renumber ^01 to 2;", "renumber ^00 to 2;", "renumber 1 to ^10000000;", "reparent 1 under ^00;", "split 1 into 2 ^03;", "split 1 into 2 3, ^04 5;", "merge 1 into ^9223372036854775808;", "join ^0001 into 2;", "recode 1 to ^0999;")
	holdWrong(t, api.ErrShort, "^\"", "rename 1 ^\"Cash;", "rename 1 ^\"Cash\nin bank\";", "rename 1 \"Cash\"^\";", "merge 1 into 2;\n^\"\n")
	holdError(t, strings.Repeat(" ", api.MaxText+1), 0, api.ErrSize)
	holdError(t, strings.Repeat("merge 1 into 2;", api.MaxText/15+1), 0, api.ErrSize)
	for _, x := range samples() {
		holdWrong(t, api.ErrForm, x.text+"^A", "^A"+x.text, x.text+"\n^-2;"+x.text)
		holdWrong(t, api.ErrDay, x.text+"^1-;", "^1-;"+x.text)
		holdWrong(t, api.ErrRange, x.text+"^007", "^007;"+x.text)
		holdWrong(t, api.ErrShort, x.text+"^\"a", "^\"a\n"+x.text)
	}
}

// Numbers of more digits than 64 bits hold, or of noughts ahead, are Split's to find, at each place of a number.
func TestP14_1LongNumbers(t *testing.T) {
	for _, digits := range []string{"00", "01", "001", "0999", "0000001", "00000000", "10000000", "99999999", "4294967296", "4294967297", "2147483649", "9223372036854775807", "9223372036854775808",
		"18446744073709551615", "18446744073709551616", "18446744073709551617", "340282366920938463463374607431768211457", strings.Repeat("1", 1000), strings.Repeat("0", 1000)} {
		for _, form := range numberForms() {
			holdWrong(t, api.ErrRange, strings.ReplaceAll(form.text, "N", "^"+digits))
		}
	}
}

// Split's errors are named ahead of the others: they count, though another one stands further left.
func TestP14_1SplitsErrorsFirst(t *testing.T) {
	for _, wrong := range []string{"to ", "7 ", "; ", `"a" `, "1970-01-01 ", "renumber 0 to 2;", "renumber 1 into 2;", "join 1000 into 2;", "merge 1 into 2 ", strings.Repeat("merge 1 into 2;", api.MaxOps+1),
		"split 1 into 1 1,1 1,1 1,1 1,1 1,1 1,1 1,1 1,1 1;"} {
		holdWrong(t, api.ErrForm, wrong+"^A")
		holdWrong(t, api.ErrDay, wrong+"^2023-02-29;")
		holdWrong(t, api.ErrRange, wrong+"^007;", wrong+"\n#\n^12345678")
		holdWrong(t, api.ErrShort, wrong+"^\"a;\n")
	}
}

// notWords: what may not stand where an op's word must.
func notWords() []string {
	return []string{"a", "to", "into", "under", "until", "script", "op", "part", "periods", "period", "renumbe", "renumbers", "enumber", "renamed", "nam", "parent", "merges", "merg", "m", "splits", "codes",
		"recoder", "joins", "joi", "calendars", "calenda", "reparen", "mergemerge", "splitinto", "toto", "0", "1", "12", "9999999", "1970-01-01", "9999-12-31", `""`, `"merge"`, `"renumber 1 to 2;"`, ",", ";", strings.Repeat("a", 1000)}
}

func TestP14_1ErrWord(t *testing.T) {
	for _, wrong := range notWords() {
		for _, gap := range gaps() {
			holdWrong(t, api.ErrWord, gap+"^"+wrong, gap+"^"+wrong+"\n"+gap, gap+"^"+wrong+" 1 to 2;", gap+"^"+wrong+";")
		}
		for _, x := range samples() {
			holdWrong(t, api.ErrWord, x.text+"^"+wrong, x.text+"\n ^"+wrong+" "+x.text, x.text+x.text+"#\n^"+wrong+";")
		}
	}
	holdWrong(t, api.ErrWord, "^;", "^;;", " ^; merge 1 into 2;", "merge 1 into 2;^;", "merge 1 into 2; ^; merge 1 into 2;", "merge 1 into 2;^, merge 1 into 2;", "^into 1 merge 2;", "^1 renumber to 2;")
}

func TestP14_1ErrWordOfLinks(t *testing.T) {
	for k := range script.Kinds {
		if link := k.Link(); link != "" {
			holdWrong(t, api.ErrWord, "^"+link, "^"+link+" 1 to 2;", "merge 1 into 2; ^"+link)
		}
	}
}

// At each place of the forms that have a link and two numbers.
func TestP14_1ErrFormOfLinked(t *testing.T) {
	for _, x := range []struct{ word, link string }{{"renumber", "to"}, {"reparent", "under"}, {"merge", "into"}, {"recode", "to"}, {"join", "into"}} {
		for _, wrong := range []string{"to", "into", "under", "until", x.word, "merge", "a", "1970-01-01", `""`, `"1"`, `"` + x.link + `"`, ",", ";", ""} {
			holdWrong(t, api.ErrForm, x.word+"^"+end(wrong, ""), x.word+" ^"+wrong+end(wrong, " 1 "+x.link+" 2;"))
			if wrong != x.link {
				holdWrong(t, api.ErrForm, x.word+" 1 ^"+wrong+end(wrong, " 2;"), x.word+" 1\n^"+wrong, x.word+" 1#\n\n^"+wrong+end(wrong, "\n"))
			}
			holdWrong(t, api.ErrForm, x.word+" 1 "+x.link+" ^"+wrong+end(wrong, ";"), x.word+" 1 "+x.link+" ^"+wrong+end(wrong, " 2;"))
			if wrong != ";" {
				holdWrong(t, api.ErrForm, x.word+" 1 "+x.link+" 2 ^"+wrong, x.word+" 1 "+x.link+" 2 ^"+wrong+end(wrong, ";"), "merge 7 into 8;\n"+x.word+" 1 "+x.link+" 2 ^"+wrong+end(wrong, " merge 1 into 2;"))
			}
		}
		holdWrong(t, api.ErrForm, x.word+" 1 ^2;", x.word+" 1 ^2 "+x.link+";", x.word+" 1 "+x.link+"^;", x.word+" 1 "+x.link+" 2 ^3;", x.word+" 1 "+x.link+" "+"^"+x.link+" 2;", x.word+" 1^, 3 "+x.link+" 2;", x.word+" 1 "+x.link+" 2^, 3;")
	}
}

// end: what follows a wrong token, if there is one; nothing, where the text is to end.
func end(wrong, behind string) string {
	if wrong == "" {
		return ""
	}
	return behind
}

func TestP14_1ErrFormOfRename(t *testing.T) {
	for _, wrong := range []string{"to", "into", "rename", "a", "1970-01-01", ",", ";", ""} {
		holdWrong(t, api.ErrForm, "rename ^"+wrong, "rename ^"+wrong+end(wrong, ` "a";`), "rename 1 ^"+wrong, "rename 1 ^"+wrong+end(wrong, ` "a";`))
		if wrong != ";" {
			holdWrong(t, api.ErrForm, `rename 1 "a"^`+wrong, `rename 1 "a" ^`+wrong+end(wrong, ";"))
		}
	}
	holdWrong(t, api.ErrForm, `rename ^"1" "a";`, `rename ^"a" 1;`, "rename 1 ^2;", `rename 1 ^2 "a";`, `rename 1 ^to "a";`, `rename 1 "a" ^"b";`, `rename 1 "a" ^2;`, `rename 1 "a"^"b";`, `rename 1 "a"^, "b";`, "rename 1 ^a;")
}

func TestP14_1ErrFormOfSplit(t *testing.T) {
	for _, wrong := range []string{"to", "split", "under", "a", "1970-01-01", `""`, `"into"`, `"1"`, ",", ";", ""} {
		holdWrong(t, api.ErrForm, "split ^"+wrong, "split ^"+wrong+end(wrong, " into 2 3;"), "split 1 ^"+wrong, "split 1 ^"+wrong+end(wrong, " 2 3;"),
			"split 1 into ^"+wrong, "split 1 into ^"+wrong+end(wrong, " 3;"), "split 1 into 2 ^"+wrong, "split 1 into 2 ^"+wrong+end(wrong, ";"),
			"split 1 into 2 3, ^"+wrong, "split 1 into 2 3, ^"+wrong+end(wrong, " 5;"), "split 1 into 2 3, 4 ^"+wrong, "split 1 into 2 3, 4 ^"+wrong+end(wrong, ";"))
		if wrong != ";" && wrong != "," {
			holdWrong(t, api.ErrForm, "split 1 into 2 3 ^"+wrong, "split 1 into 2 3 ^"+wrong+end(wrong, ";"), "split 1 into 2 3, 4 5 ^"+wrong, "split 1 into 2 3, 4 5 ^"+wrong+end(wrong, ";"))
		}
	}
	holdWrong(t, api.ErrForm, "split ^into 2 3;", "split 1 ^2 3;", "split 1 into^;", "split 1 into ^, 2 3;", "split 1 into 2^;", "split 1 into 2^, 3;", "split 1 into 2 3,^;", "split 1 into 2 3,^, 4 5;", "split 1 into 2 3 ^4 5;", "split 1 into 2 3 ^4, 5 6;",
		"split 1 into 2 3, 4 5,^;", "split 1 into 2 3, 4 5 ^6;", "split 1 into 2 3, 4 5 ^split 1 into 2 3;", "split 1 ^, 2 into 3 4;", "split 1 into 2 3, ^into 4 5;", "split 1 into ^into 2 3;", "split 1 into 2 ^into 3;")
}

func TestP14_1ErrFormOfCalendar(t *testing.T) {
	for _, wrong := range []string{"to", "into", "calendar", "a", "1", "1970", `""`, `"until"`, `"1970-01-01"`, ",", ";", ""} {
		for _, starts := range []string{"", "1970-01-01 ", "1970-01-01 1971-01-01 ", "1970-01-01\n1971-01-01#\n1972-01-01 "} {
			holdWrong(t, api.ErrForm, "calendar "+starts+"^"+wrong, "calendar "+starts+"^"+wrong+end(wrong, " until 1973-01-01;"), "calendar "+starts+"^"+wrong+end(wrong, " 1973-01-01;"),
				"calendar "+starts+"until ^"+wrong, "calendar "+starts+"until ^"+wrong+end(wrong, ";"), "calendar "+starts+"until ^"+wrong+end(wrong, " 1973-01-01;"))
			if wrong != ";" {
				holdWrong(t, api.ErrForm, "calendar "+starts+"until 1973-01-01 ^"+wrong, "calendar "+starts+"until 1973-01-01 ^"+wrong+end(wrong, ";"))
			}
		}
	}
	holdWrong(t, api.ErrForm, "calendar^;", "calendar until^;", "calendar 1970-01-01^;", "calendar 1970-01-01^, 1971-01-01 until 1972-01-01;", "calendar until 1970-01-01 ^1971-01-01;", "calendar until ^until 1970-01-01;", "calendar until 1970-01-01 ^until 1971-01-01;")
}

// A sign that is missing between two ops, a sign too many behind one.
func TestP14_1MissingSemicolon(t *testing.T) {
	for _, x := range samples() {
		bare := strings.TrimSuffix(x.text, ";")
		holdWrong(t, api.ErrForm, bare+"^", bare+" ^", bare+"#\n^", bare+" # ;^", bare+"\n^merge 1 into 2;", bare+" ^"+x.text, "merge 1 into 2;"+bare+"\n\n^", bare+" ^until 1970-01-01;")
		holdWrong(t, api.ErrWord, x.text+"^;", x.text+"\n^,", x.text+"^;merge 1 into 2;")
	}
}

// numberForm is a form with a number N in it, which may be from least to most.
type numberForm struct {
	text  string
	least int64
	most  int64
	set   func(o *script.Op, n int64)
}

// numberForms: each place of each kind's form where a number must stand.
func numberForms() []numberForm {
	from := func(o *script.Op, n int64) { o.From = uint32(n) }
	to := func(o *script.Op, n int64) { o.To = uint32(n) }
	code := func(i int) func(*script.Op, int64) {
		return func(o *script.Op, n int64) { o.Parts[i].Code = uint32(n) }
	}
	weight := func(i int) func(*script.Op, int64) {
		return func(o *script.Op, n int64) { o.Parts[i].Weight = n }
	}
	return []numberForm{
		{"renumber N to 7;", 1, 999999, from},
		{"renumber 7 to N;", 1, 999999, to},
		{`rename N "Cash";`, 1, 999999, from},
		{"reparent N under 7;", 1, 999999, from},
		{"reparent 7 under N;", 0, 999999, to},
		{"merge N into 7;", 1, 999999, from},
		{"merge 7 into N;", 1, 999999, to},
		{"split N into 7 7;", 1, 999999, from},
		{"split 7 into N 7;", 1, 999999, code(0)},
		{"split 7 into 7 N;", 1, 1000000, weight(0)},
		{"split 7 into 7 7, N 7;", 1, 999999, code(1)},
		{"split 7 into 7 7, 7 N;", 1, 1000000, weight(1)},
		{"split 7 into N 7, 7 7, 7 7;", 1, 999999, code(0)},
		{"split 7 into 7 N, 7 7, 7 7;", 1, 1000000, weight(0)},
		{"split 7 into 7 7, 7 7, 7 7, 7 7, 7 7, 7 7, 7 7, N 7;", 1, 999999, code(7)},
		{"split 7 into 7 7, 7 7, 7 7, 7 7, 7 7, 7 7, 7 7, 7 N;", 1, 1000000, weight(7)},
		{"recode N to 7;", 1, 999, from},
		{"recode 7 to N;", 1, 999, to},
		{"join N into 7;", 1, 999, from},
		{"join 7 into N;", 1, 999, to},
	}
}

// Each number at each place: just those that may be there are read.
func TestP14_1Numbers(t *testing.T) {
	numbers := []int64{0, 1, 2, 3, 7, 9, 10, 99, 100, 127, 128, 255, 256, 257, 500, 511, 512, 997, 998, 999, 1000, 1001, 1023, 1024, 1025, 9999, 10000, 32767, 32768, 65535, 65536, 65537, 65536 + 999, 99999, 100000,
		131072, 131073, 999990, 999997, 999998, 999999, 1000000, 1000001, 1000002, 1048575, 1048576, 1048577, 1999999, 2000000, 2097152, 2097153, 8388608, 8388609, 9999998, 9999999}
	for _, form := range numberForms() {
		for _, n := range numbers {
			digits := fmt.Sprint(n)
			s := strings.ReplaceAll(form.text, "N", digits)
			if n < form.least || n > form.most {
				holdWrong(t, api.ErrRange, strings.ReplaceAll(form.text, "N", "^"+digits), " #\n"+strings.ReplaceAll(form.text, "N", "\n^"+digits)+form.text[:5], "merge 1 into 2;"+strings.ReplaceAll(form.text, "N", "^"+digits)+s)
				continue
			}
			ops, _, _ := Parse(strings.ReplaceAll(form.text, "N", "7"))
			if len(ops) != 1 {
				t.Fatalf("%q has %d ops", form.text, len(ops))
			}
			form.set(&ops[0], n)
			holdOps(t, s, ops[0])
			holdOps(t, "\n"+s+s, placed(ops[0], 1), placed(ops[0], 1+len(s)))
		}
	}
}

// Each number from 0 to one above the greatest, at the places of entities.
func TestP14_1EachEntity(t *testing.T) {
	for _, form := range numberForms() {
		if form.most != 999 {
			continue
		}
		for n := int64(0); n <= 1100; n++ {
			s := strings.ReplaceAll(form.text, "N", fmt.Sprint(n))
			if n < 1 || n > 999 {
				holdError(t, s, strings.Index(form.text, "N"), api.ErrRange)
				continue
			}
			o := script.Op{Kind: script.Recode, From: 7, To: 7}
			if form.text[0] == 'j' {
				o.Kind = script.Join
			}
			form.set(&o, n)
			holdOps(t, s, o)
		}
	}
}

// A number beside one that may not be there doesn't matter: the first from the left does.
func TestP14_1FirstFault(t *testing.T) {
	holdWrong(t, api.ErrRange, "renumber ^0 to 0;", "renumber ^1000000 into 0;", "reparent ^0 under 0;", "merge ^0 to 2", "split ^0 into 0 0;", "split 1 into ^0 0;", "split 1 into 2 ^0, 0 0;", "split 1 into 2 3, ^0 0;",
		"split 1 into 2 3, 4 ^0 a", "recode ^1000 to 1000;", "recode 1 to ^1000", "join ^0 into", "rename ^0 1", "rename ^1000000;", "renumber ^0", "renumber 1 to ^0", "renumber 1 to ^1000000 a b c")
	holdWrong(t, api.ErrForm, "renumber 1 ^into 0;", "renumber ^to 0 0", "rename ^a 0", "split 1 ^0 0", "split 1 into 2 3 ^0 0", "split 1 into 2 ^, 0 0", "join 1 ^1000;", "join 1 ^to 1000;", "merge 1 into 2 ^merge 0 into 0", "merge 1 into 2^, 0; a",
		"calendar ^0;", "calendar until ^0;", "merge ^; a", "merge 1 into^; ;")
	holdWrong(t, api.ErrWord, "^a 0 to 0", "^a merge 0 into 0;", "^; renumber 0", "merge 1 into 2; ^a; merge 0 into 0;", "merge 1 into 2; ^0; a b", "^, ; 0", "merge 1 into 2;^7 merge 1 into")
	for _, a := range wrongs() {
		for _, b := range wrongs() {
			holdError(t, a.text+" "+b.text, a.at, a.e)
			holdError(t, "merge 1 into 2;"+a.text+"\n"+b.text+"\n", a.at+15, a.e)
			holdError(t, a.text+" merge 1 into 2;"+b.text+"\n", a.at, a.e)
		}
	}
}

// wrong is a text that goes wrong at a place, whatever stands behind it.
type wrong struct {
	text string
	at   int
	e    api.Errno
}

// wrongs: of each sort that isn't Split's.
func wrongs() []wrong {
	return []wrong{
		{"a", 0, api.ErrWord}, {";", 0, api.ErrWord}, {"7", 0, api.ErrWord}, {`"merge"`, 0, api.ErrWord}, {"merge 1 into 2;to", 15, api.ErrWord},
		{"merge;", 5, api.ErrForm}, {"merge into;", 6, api.ErrForm}, {"merge 1 to 2;", 8, api.ErrForm}, {"merge 1 into 2,", 14, api.ErrForm}, {"rename 1 2;", 9, api.ErrForm}, {"split 1 into 2;", 14, api.ErrForm}, {"calendar 7;", 9, api.ErrForm},
		{"merge 0", 6, api.ErrRange}, {"join 1000 into 2;", 5, api.ErrRange}, {"split 1 into 2 0;", 15, api.ErrRange}, {"merge 1 into 1000000;", 13, api.ErrRange},
		{"split 1 into 1 1,1 1,1 1,1 1,1 1,1 1,1 1,1 1,1 1;", 45, api.ErrSize},
	}
}

// MaxOps ops are read; where one more must begin, whatever stands there, they are too many.
func TestP14_1TooManyOps(t *testing.T) {
	for _, x := range samples() {
		var want []script.Op
		for i := range api.MaxOps {
			want = append(want, placed(x.op, i*len(x.text)))
		}
		most := strings.Repeat(x.text, api.MaxOps)
		holdOps(t, most[:len(x.text)*(api.MaxOps-1)], want[:api.MaxOps-1]...)
		holdOps(t, most, want...)
		for _, gap := range gaps() {
			holdOps(t, most+gap, want...)
			holdOps(t, most+gap+"# a note", want...)
			holdWrong(t, api.ErrSize, most+gap+"^"+x.text, most+gap+"^merge 1 into 2;"+most)
		}
		for _, wrong := range append(notWords(), "merge", "renumber", "merge 0", "merge 0 into 2;", "calendar;", "join 1000") {
			holdWrong(t, api.ErrSize, most+"^"+wrong, most+" ^"+wrong+"\n", most+"#\n^"+wrong+";")
			ahead := most[:len(x.text)*(api.MaxOps-1)]
			if _, _, e := Parse(wrong); e == api.OK {
				t.Fatalf("%q may be", wrong)
			}
			_, at, e := Parse(wrong + "\n")
			holdError(t, ahead+wrong+"\n", len(ahead)+at, e)
		}
		// A fault in the last op that may be there stands further left.
		holdWrong(t, api.ErrForm, most[:len(most)-1]+"^", most[:len(most)-1]+" ^merge 1 into 2;", most[:len(most)-1]+"\n^until 7;")
		for _, b := range wrongs() {
			holdWrong(t, api.ErrSize, most+"^"+b.text)
		}
	}
}

// Of kinds mixed: as many as may be, and one more.
func TestP14_1TooManyMixed(t *testing.T) {
	s := ""
	var want []script.Op
	all := samples()
	for i := range api.MaxOps {
		x := all[i%len(all)]
		want = append(want, placed(x.op, len(s)))
		s += x.text + "\n"
	}
	holdOps(t, s, want...)
	for _, x := range all {
		holdError(t, s+x.text, len(s), api.ErrSize)
		holdError(t, "\n"+s+"\n# a note\n"+x.text, len(s)+11, api.ErrSize)
	}
}

// MaxParts parts are read; where one more must begin, whatever stands there, they are too many.
func TestP14_1TooManyParts(t *testing.T) {
	for _, comma := range []string{",", ", ", "\n,#\n"} {
		s := "split 9 into"
		o := script.Op{Kind: script.Split, From: 9}
		for i := range api.MaxParts {
			if i > 0 {
				s += comma
			}
			s += fmt.Sprintf(" %d %d", i+1, 100*i+1)
			o.Parts = append(o.Parts, script.Part{Code: uint32(i + 1), Weight: int64(100*i + 1)})
			holdOps(t, s+";", o)
		}
		holdWrong(t, api.ErrSize, s+comma+"^", s+comma+"^1 1;", s+comma+" ^1 1", s+comma+"^0 0;", s+comma+"^9999999", s+comma+"^;", s+comma+"^,", s+comma+"^to", s+comma+"^into 2 3", s+comma+"^merge 1 into 2;", s+comma+`^"a"`, s+comma+"^1970-01-01",
			s+comma+"^1 1, 1 1, 1 1;", s+comma+" # a note\n^", s+comma+"#\n\n^1 1;", "merge 1 into 2;"+s+comma+"^1 1;", s+";"+s+";"+s+comma+"^1 1;")
		holdWrong(t, api.ErrForm, s+"^", s+" ^1 1;", s+" ^into", s+" ^\"a\";")
		// A fault among the parts that may be there stands further left.
		holdWrong(t, api.ErrRange, strings.Replace(s, " 8 701", " ^0 701", 1)+comma+" 1 1;", strings.Replace(s, " 8 701", " 8 ^0", 1)+comma+" 1 1;")
		holdWrong(t, api.ErrForm, strings.Replace(s, " 8 701", " ^a 701", 1)+comma+" 1 1;", strings.Replace(s, " 8 701", " 8 ^;", 1)+comma+" 1 1;")
		holdOps(t, s+";"+s+";", o, placed(o, len(s)+1))
	}
}
