package lex

import (
	"math/rand"
	"regexp"
	"strconv"
	"strings"
	"testing"
	"time"

	"transposal/api"
	"transposal/day"
)

// What texts are made of, by the library's patterns.
var (
	gapAhead    = regexp.MustCompile(`^(?:[ \n]|#[^\n]*)*`)
	tokenAhead  = regexp.MustCompile(`^(?:([a-z]+)|([0-9][0-9-]*)|"([^"\n]*)"|([,;]))`)
	numberWhole = regexp.MustCompile(`^(?:0|[1-9][0-9]{0,6})$`)
)

// dayOf: the day whose text s is, by the library's calendar.
func dayOf(s string) (day.Day, bool) {
	at, err := time.Parse("2006-01-02", s)
	if err != nil || len(s) != 10 || at.Year() < 1 {
		return 0, false
	}
	return day.Day(at.Unix() / 86400), true
}

// gathered: a text's tokens but the end, gathered by patterns; or where it goes wrong, and why.
func gathered(s string) (all []Token, at int, e api.Errno) {
	if len(s) > 65536 {
		return nil, 0, api.ErrSize
	}
	for {
		at += len(gapAhead.FindString(s[at:]))
		if at == len(s) {
			return all, 0, api.OK
		}
		found := tokenAhead.FindStringSubmatch(s[at:])
		switch {
		case found == nil && s[at] == '"':
			return nil, at, api.ErrShort
		case found == nil:
			return nil, at, api.ErrForm
		case found[1] != "":
			all = append(all, aWord(at, found[1]))
		case strings.Contains(found[2], "-"):
			d, ok := dayOf(found[2])
			if !ok {
				return nil, at, api.ErrDay
			}
			all = append(all, aDate(at, found[2], d))
		case found[2] != "":
			if !numberWhole.MatchString(found[2]) {
				return nil, at, api.ErrRange
			}
			n, _ := strconv.Atoi(found[2])
			all = append(all, aNumber(at, found[2], int64(n)))
		case found[4] != "":
			all = append(all, aSign(at, found[4]))
		default:
			all = append(all, aText(at, found[3]))
		}
		at += len(found[0])
	}
}

// holdGathered holds a text against what is gathered of it, and answers the error.
func holdGathered(t *testing.T, s string) api.Errno {
	t.Helper()
	want, at, e := gathered(s)
	if e == api.OK {
		holdTokens(t, s, want...)
	} else {
		holdError(t, s, at, e)
	}
	return e
}

// holdSeen: of all errors that Split has, and of none, there was something.
func holdSeen(t *testing.T, seen map[api.Errno]int) {
	t.Helper()
	for _, e := range []api.Errno{api.OK, api.ErrForm, api.ErrShort, api.ErrRange, api.ErrDay} {
		if seen[e] == 0 {
			t.Errorf("none of error %d: %v", e, seen)
		}
	}
}

// All texts of up to five of the signs that matter.
func TestP12_1AllShort(t *testing.T) {
	const signs = "a01-\"# \n,A"
	seen := map[api.Errno]int{}
	texts := []string{""}
	for range 5 {
		var longer []string
		for _, s := range texts {
			for i := range len(signs) {
				longer = append(longer, s+signs[i:i+1])
			}
		}
		for _, s := range longer {
			seen[holdGathered(t, s)]++
		}
		texts = longer
	}
	holdSeen(t, seen)
}

// chosen: one of some texts, by chance.
func chosen(r *rand.Rand, of []string) string {
	return of[r.Intn(len(of))]
}

// Texts by chance: of tokens and gaps, with now and then what goes wrong.
func TestP12_1ByChance(t *testing.T) {
	r := rand.New(rand.NewSource(12))
	var good []string
	for _, p := range pieces() {
		good = append(good, p.bytes)
	}
	good = append(good, gaps()[:15]...)
	good = append(good, " ", " ", " ", "\n", ";", ",", "1", "20", "-01", "-")
	var bad []string
	for _, f := range faults() {
		if len(f.bytes) < 100 {
			bad = append(bad, f.bytes)
		}
	}
	seen := map[api.Errno]int{}
	for range 40000 {
		s := ""
		for range r.Intn(30) {
			switch r.Intn(50) {
			case 0:
				s += chosen(r, bad)
			case 1, 2, 3, 4, 5, 6, 7, 8:
				s += chosen(r, good)
			default:
				s += chosen(r, good) + " "
			}
		}
		seen[holdGathered(t, s)]++
	}
	holdSeen(t, seen)
}

// Bytes by chance, of those that matter and of all.
func TestP12_1BytesByChance(t *testing.T) {
	r := rand.New(rand.NewSource(13))
	const signs = "az09129-\"\"#\n\n  ,;A\té\xff"
	seen := map[api.Errno]int{}
	for range 60000 {
		b := make([]byte, r.Intn(16))
		for i := range b {
			b[i] = signs[r.Intn(len(signs))]
			if r.Intn(40) == 0 {
				b[i] = byte(r.Intn(256))
			}
		}
		seen[holdGathered(t, string(b))]++
	}
	holdSeen(t, seen)
}

// Digits and - by chance, near to days' texts.
func TestP12_1NearDays(t *testing.T) {
	r := rand.New(rand.NewSource(14))
	seen := map[api.Errno]int{}
	for range 60000 {
		b := []byte((firstDay + day.Day(r.Intn(int(lastDay-firstDay)+1))).Text())
		for range r.Intn(3) {
			at := r.Intn(len(b))
			switch r.Intn(4) {
			case 0:
				b = append(b[:at], b[at+1:]...)
			case 1:
				b = append(b[:at+1], b[at:]...)
			default:
				b[at] = "0123456789-"[r.Intn(11)]
			}
		}
		seen[holdGathered(t, string(b))]++
	}
	if seen[api.OK] == 0 || seen[api.ErrDay] == 0 || seen[api.ErrForm] == 0 {
		t.Errorf("of each error: %v", seen)
	}
}

// A script with each of its bytes cut out, doubled, turned into each other one, and with all behind it cut off.
func TestP12_1OneOff(t *testing.T) {
	const script = "# new\nrename 10 \"Cash # 1\";split 1 into 2 3, 4 1;\ncalendar 2000-02-29 until 2001-01-01; # end"
	for i := range len(script) {
		ahead, behind := script[:i], script[i+1:]
		holdGathered(t, ahead)
		holdGathered(t, ahead+behind)
		holdGathered(t, ahead+script[i:i+1]+script[i:])
		for b := range 256 {
			holdGathered(t, ahead+string([]byte{byte(b)})+behind)
			holdGathered(t, ahead+string([]byte{byte(b)})+script[i:])
		}
	}
}

// Long texts by chance, around as many bytes as may be.
func TestP12_1LongByChance(t *testing.T) {
	r := rand.New(rand.NewSource(15))
	of := []string{"to ", "12", "2000-02-29\n", "\"Cash\"", ",", ";", "# a note\n", " ", "\n", "0 "}
	for range 40 {
		var s strings.Builder
		for s.Len() < 65000 {
			s.WriteString(chosen(r, of))
			// Digits behind digits would be a fault early on.
			s.WriteString(" ")
		}
		size := 65536 + r.Intn(5) - 2
		whole := s.String() + strings.Repeat(" ", size-s.Len())
		holdGathered(t, whole)
		holdGathered(t, whole[:len(whole)-1]+"A")
		holdGathered(t, whole[:r.Intn(len(whole))]+"\"")
	}
}
