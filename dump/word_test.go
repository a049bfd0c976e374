package dump_test

import (
	"math/rand"
	"slices"
	"strings"
	"testing"

	"hindsight/api"
	"hindsight/dump"
	"hindsight/samples"
)

func TestWordExamples(t *testing.T) {
	quotes(t, "a b", `"a b"`)
	quotes(t, `say "x\y"`, `"say \"x\\y\""`)
	quotes(t, string([]byte{10, 9, 0, 127, 128}), `"\n\t\x00\x7f\x80"`)
	quotes(t, string([]byte{195, 169}), "\"\xc3\xa9\"")
	quotes(t, string([]byte{194, 128}), `"\xc2\x80"`)
	quotes(t, string([]byte{239, 191, 189}), "\"\xef\xbf\xbd\"")
	for _, s := range []string{`"\x41"`, `"\xC2"`, `"a`, `a`, `"a"b"`, `"\q"`, `"\x4"`, "\"a\nb\""} {
		noWord(t, s)
	}
}

// TestSigns: of each sort of sign those at the edges.
func TestSigns(t *testing.T) {
	quotes(t, "", `""`)
	quotes(t, "\r\n", `"\r\n"`)
	quotes(t, "\x01\x08\x0b\x0c\x0e\x1f", `"\x01\x08\x0b\x0c\x0e\x1f"`)
	quotes(t, " !~", `" !~"`)
	quotes(t, `\x41`, `"\\x41"`)
	quotes(t, `\`, `"\\"`)
	quotes(t, `"`, `"\""`)
	quotes(t, `\"`, `"\\\""`)
	quotes(t, "'`", "\"'`\"")
	quotes(t, "\x7f\xc2\x80\xc2\x9f\xc2\xa0", "\"\\x7f\\xc2\\x80\\xc2\\x9f\xc2\xa0\"")
	quotes(t, "\xc2\xad\xe2\x80\xa8\xef\xbb\xbf", "\"\xc2\xad\xe2\x80\xa8\xef\xbb\xbf\"") // such as can't be seen, but are no less
	quotes(t, "\xdf\xbf\xe0\xa0\x80", "\"\xdf\xbf\xe0\xa0\x80\"")                         // 7FF, 800
	quotes(t, "\xed\x9f\xbf\xee\x80\x80", "\"\xed\x9f\xbf\xee\x80\x80\"")                 // D7FF, E000
	quotes(t, "\xed\xa0\x80", `"\xed\xa0\x80"`)                                           // D800
	quotes(t, "\xed\xbf\xbf", `"\xed\xbf\xbf"`)                                           // DFFF
	quotes(t, "\xef\xbf\xbc\xef\xbf\xbd\xef\xbf\xbe\xef\xbf\xbf", "\"\xef\xbf\xbc\xef\xbf\xbd\xef\xbf\xbe\xef\xbf\xbf\"")
	quotes(t, "\xf0\x90\x80\x80\xf4\x8f\xbf\xbf", "\"\xf0\x90\x80\x80\xf4\x8f\xbf\xbf\"") // 10000, 10FFFF
	quotes(t, "\xf4\x90\x80\x80\xf5\xff", `"\xf4\x90\x80\x80\xf5\xff"`)                   // 110000, and what begins nothing
}

// TestStrayBytes: FFFD stands for itself, also beside bytes that stand in no sequence.
func TestStrayBytes(t *testing.T) {
	const known = "\xef\xbf\xbd"
	for _, stray := range []struct{ bytes, word string }{
		{"\x80", `\x80`}, {"\xbf", `\xbf`}, {"\xc2", `\xc2`}, {"\xef", `\xef`}, {"\xef\xbf", `\xef\xbf`}, {"\xbd", `\xbd`}, {"\xff", `\xff`},
		{"\xc0\x80", `\xc0\x80`}, {"\xe0\x9f\xbf", `\xe0\x9f\xbf`}, {"\xf0\x8f\xbf\xbf", `\xf0\x8f\xbf\xbf`}, // too long for their numbers
		{"\xe2\x82", `\xe2\x82`}, {"\xf0\x9f\x98", `\xf0\x9f\x98`}, // cut
	} {
		for _, beside := range []struct{ bytes, word string }{{known, known}, {"a", "a"}, {`"`, `\"`}, {"\n", `\n`}, {"\xc3\xa9", "\xc3\xa9"}, {"\xc2\x80", `\xc2\x80`}, {"\xff", `\xff`}} {
			quotes(t, stray.bytes+beside.bytes, `"`+stray.word+beside.word+`"`)
			quotes(t, beside.bytes+stray.bytes, `"`+beside.word+stray.word+`"`)
			quotes(t, beside.bytes+stray.bytes+beside.bytes, `"`+beside.word+stray.word+beside.word+`"`)
		}
	}
}

// encoded is a number in so many bytes, be it the right way or not.
func encoded(number, length int) string {
	b := make([]byte, length)
	for k := length - 1; k > 0; k-- {
		b[k] = 0x80 | byte(number&0x3f)
		number >>= 6
	}
	lead := 0xf00 >> length
	b[0] = byte(lead | number)
	return string(b)
}

// TestAllNumbers: each number that two, three or four bytes can tell, the shortest way or not.
func TestAllNumbers(t *testing.T) {
	ends := []int{1: 0x80, 2: 0x800, 3: 0x10000, 4: 0x200000} // below these are the numbers that so many bytes tell
	for length := 2; length <= 4; length++ {
		for number := range ends[length] {
			good := number >= ends[length-1] && number <= 0x10ffff && (number < 0xd800 || number > 0xdfff)
			s := encoded(number, length)
			want := `"` + s + `"`
			if !good || number < 0xa0 {
				want = `"` + plainDigits(s) + `"`
			}
			if quotes(t, s, want); t.Failed() {
				t.Fatalf("the number %x in %d bytes", number, length)
			}
		}
	}
}

// allStrings calls a function with all strings of at most n of some bytes.
func allStrings(n int, of []byte, visit func(string)) {
	var grow func(s []byte)
	grow = func(s []byte) {
		visit(string(s))
		if len(s) < n {
			for _, b := range of {
				grow(append(s, b))
			}
		}
	}
	grow(nil)
}

func allBytes() []byte {
	b := make([]byte, 256)
	for k := range b {
		b[k] = byte(k)
	}
	return b
}

// TestAllPairs: each byte alone, and each behind each.
func TestAllPairs(t *testing.T) {
	for b := range 256 {
		s := string([]byte{byte(b)})
		want := map[int]string{9: `"\t"`, 10: `"\n"`, 13: `"\r"`, 34: `"\""`, 92: `"\\"`}[b]
		switch {
		case want != "":
		case b >= 32 && b <= 126:
			want = `"` + s + `"`
		default:
			want = `"` + plainDigits(s) + `"`
		}
		quotes(t, s, want)
	}
	words(t, 2, allBytes())
}

// words holds the words of all strings of at most n of some bytes against plain ones. None of them has a byte
// below 32, nor 127; and no two are the same.
func words(t *testing.T, n int, of []byte) {
	t.Helper()
	seen := map[string]string{}
	allStrings(n, of, func(s string) {
		if t.Failed() {
			return
		}
		word := dump.Quote(s)
		if plain := plainQuote(s); word != plain {
			t.Errorf("P23.1: Quote(%q) = %s, want %s", s, word, plain)
		}
		if other, is := seen[word]; is {
			t.Errorf("P23.8: %q and %q have the same word", s, other)
		}
		for k := range len(word) {
			if word[k] < 32 || word[k] == 127 {
				t.Errorf("P23.8: the word of %q has the byte %d", s, word[k])
			}
		}
		if got, fault := dump.Unquote(word); got != s || fault != api.OK {
			t.Errorf("P23.7: Unquote(%s) = %q, %d, want %q", word, got, fault, s)
		}
		seen[word] = s
	})
}

// TestAllShort: all strings of three bytes, and of four, at the edges of what may stand in a sequence.
func TestAllShort(t *testing.T) {
	words(t, 3, []byte("\x00\x09\x0a\x0d\x1f \"A\\nx~\x7f\x80\x8f\x90\x9f\xa0\xbd\xbf\xc0\xc1\xc2\xc3\xdf\xe0\xe1\xec\xed\xee\xef\xf0\xf1\xf3\xf4\xf5\xf7\xff"))
	words(t, 4, []byte("a\x7f\x80\x8f\x90\x9f\xa0\xbd\xbf\xc2\xdf\xe0\xed\xef\xf0\xf1\xf4\xff"))
}

// TestOtherWays: what a person may write for a word, but nobody else does.
func TestOtherWays(t *testing.T) {
	for _, s := range []string{
		"", `"`, `a`, `"a`, `a"`, `'a'`, "`a`", `“a”`, `«a»`, `""a""`, `"""`, `""""`, `"a"b"`, `"a""b"`, `"a" "b"`, `"a"+"b"`, `"a" `, ` "a"`, ` "a" `, "\"a\"\n", "\t\"a\"", `""a`, `a""`, `('a')`, `'"'`,
		`"\"`, `"\\\"`, `"a\"`, `\""`, `"\ "`, `"\'"`, `"\/"`, `"\q"`, `"\a"`, `"\b"`, `"\e"`, `"\f"`, `"\v"`, `"\0"`, `"\N"`, `"\T"`, `"\R"`, `"\101"`, `"\007"`, `"\u0041"`, `"\u000a"`, `"\u00e9"`, `"\U00000041"`, `"\U0001F600"`, `"\u{41}"`, `"\x{41}"`, `"\cA"`, "\"\\\n\"", "\"\\\t\"", "\"\\\x00\"",
		`"\x"`, `"\x4"`, `"\x4g"`, `"\xg4"`, `"\x 4"`, `"\x+4"`, `"\x-4"`, `"\x0x"`, `"\X0a"`, `"\X7f"`, `"\x0A"`, `"\x7F"`, `"\xC2"`, `"\xFf"`, `"\xfF"`, "\"\\x\xe2\x82\xac\"", `"\x１２"`,
		`"\x0a"`, `"\x0d"`, `"\x09"`, `"\x20"`, `"\x21"`, `"\x22"`, `"\x41"`, `"\x5c"`, `"\x61"`, `"\x7e"`, `"\x5cn"`, `"a\x62c"`,
		`"\xc3\xa9"`, `"\xc2\xa0"`, `"\xef\xbf\xbd"`, `"\xe2\x82\xac"`, `"\xf0\x9f\x98\x80"`, `"\xf4\x8f\xbf\xbf"`, `"\xff\xc3\xa9"`, `"\xc3\xc3\xa9"`,
		"\"\n\"", "\"\r\"", "\"\t\"", "\"\x00\"", "\"\x1b\"", "\"\x1f\"", "\"\x7f\"", "\"\x80\"", "\"\x9f\"", "\"\xa0\"", "\"\xff\"", "\"a\x80b\"", "\"\xc2\x80\"", "\"\xc2\x9f\"", "\"\xc3\"", "\"\xc3\\xa9\"", "\"\\xc3\xa9\"", "\"\xe2\x82\\xac\"", "\"\xed\xa0\x80\"", "\"\xc0\x80\"", "\"\xf4\x90\x80\x80\"", "\"\xef\xbf\"",
		`"&quot;"x"`, `"a"//`, `f"a"`, `"a"s`, `"a\`, `"a\x`, `"a\x0`, `"a\x00`,
	} {
		noWord(t, s)
	}
	for b := range 256 {
		s := string([]byte{byte(b)})
		digits := plainDigits(s)
		if great := `\x` + strings.ToUpper(digits[2:]); great != digits {
			noWord(t, `"`+great+`"`)
		}
		if plainQuote(s) != `"`+digits+`"` {
			noWord(t, `"`+digits+`"`)
			noWord(t, `"`+digits+`a"`)
		}
	}
}

// TestAllTexts: each text of at most six of some signs is a word, or none; of all strings that may have so short
// a word, the words are known.
func TestAllTexts(t *testing.T) {
	known, is := map[string]string{}, 0
	of := []byte("\"\\xn0ac3\xc3\xa9 ")
	allStrings(4, []byte("\"\\xn0ac3\xc3\xa9 \n\x00\x0a\x0c\x03\xaa\xa0\xac\xa3\xca\xc0\xcc\xc3\x3a\x30\x3c\x33"), func(s string) {
		if word := plainQuote(s); len(word) <= 6 {
			known[word] = s
		}
	})
	allStrings(6, of, func(word string) {
		if t.Failed() {
			return
		}
		s, good := known[word]
		if !good {
			noWord(t, word)
			return
		}
		is++
		quotes(t, s, word)
	})
	if is < 2000 {
		t.Errorf("the test met %d words only", is)
	}
}

// TestDamagedWords: words changed a little, held against a plain reading.
func TestDamagedWords(t *testing.T) {
	r := rand.New(rand.NewSource(2301))
	seen := samples.Seen{}
	for range 200000 {
		s := someText(r)
		word := edited(r, plainQuote(s))
		want, good := plainUnquote(word)
		if good {
			seen[api.OK]++
			quotes(t, want, word)
		} else {
			seen[api.ErrLine]++
			noWord(t, word)
		}
		if t.Failed() {
			t.FailNow()
		}
	}
	if rare := seen.Rare(api.OK, api.ErrLine); len(rare) > 0 {
		t.Errorf("seldom met: %v", rare)
	}
}

// pieces are what texts are made of: signs of all sorts, and bytes that stand in none.
var pieces = strings.Split("a|b|main.go:7| | |\\|\"|\n|\r|\t|x|0|\x00|\x1f|~|\x7f|\x80|\xbf|\xc2|\xc3|\xc2\x80|\xc2\x9f|\xc2\xa0|\xc3\xa9|\xe2\x82|\xe2\x82\xac|\xed\xa0\x80|\xef|\xef\xbf\xbd|\xf0\x9f\x98|\xf0\x9f\x98\x80|\xf4\x90\x80\x80|\xff", "|")

// someText is a string of a few pieces.
func someText(r *rand.Rand) string {
	s := ""
	for range r.Intn(7) {
		s += pieces[r.Intn(len(pieces))]
	}
	return s
}

// edited is a text with one to three changes, mostly by what stands in lines.
func edited(r *rand.Rand, s string) string {
	b := []byte(s)
	for range 1 + r.Intn(3) {
		at := r.Intn(len(b) + 1)
		piece := []string{`"`, `\`, ` `, `x`, `0`, `0x`, `1`, `9`, `a`, `F`, `-`, `+`, `_`, `.`, "\n", "\x80", "\xc3", `\x`, `\\`, `\"`, `""`, ` "f"`, `\x41`, `\x7f`, `\n`, pieces[r.Intn(len(pieces))]}[r.Intn(26)]
		switch r.Intn(3) {
		case 0:
			b = slices.Insert(b, at, []byte(piece)...)
		case 1:
			b = slices.Delete(b, at, min(len(b), at+1+r.Intn(2)))
		case 2:
			b = append(b[:at:at], append([]byte(piece), b[min(len(b), at+len(piece)):]...)...)
		}
	}
	return string(b)
}

// TestThereAndBack: strings of any bytes, and of many pieces.
func TestThereAndBack(t *testing.T) {
	r := rand.New(rand.NewSource(2302))
	for range 20000 {
		b := make([]byte, r.Intn(40))
		r.Read(b)
		quotes(t, string(b), plainQuote(string(b)))
		s := someText(r) + someText(r)
		quotes(t, s, plainQuote(s))
		if t.Failed() {
			t.FailNow()
		}
	}
}
