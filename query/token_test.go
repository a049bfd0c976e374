package query_test

import (
	"strconv"
	"strings"
	"testing"

	"hindsight/api"
	"hindsight/samples"
)

// parts are places where some token is asked for, as texts ahead of it; each ends where a token may begin.
var parts = []string{"", "not ", "(", "all and ", "g ", "obj = ", "leaf ", "site ~ ", "kind ", "kind = ", "kind in ", "kind in (", "kind in (read ", "kind in (read,", "all ", "(all ", "g = 1 ", `leaf = "x" `, "kind in (read) "}

// tokens are tokens of all sorts.
var tokens = []string{"all", "access", "not", "and", "or", "g", "leaf", "kind", "in", "read", "racquire", "x", "z", "0", "7", "007", "0x0", "0xff", "18446744073709551615", "18446744073709551616", "0x", `""`, `"x"`, `"\x41\n"`, `"\\\""`, "(", ")", ",", "=", "!=", "<", "<=", ">", ">=", "~", "!~", "!"}

// TestTokens: each token alone, doubled, cut at each byte, next to each other one, with and without blanks around
// it, at each place.
func TestTokens(t *testing.T) {
	seen := samples.Seen{}
	for _, ahead := range parts {
		for _, token := range tokens {
			texts := []string{token, token + token, token + " " + token, " \t\n" + token + "\n\t "}
			for cut := range len(token) {
				texts = append(texts, token[:cut], token[cut:], token[:cut]+" "+token[cut:], token[:cut]+"\n"+token[cut:])
			}
			for _, other := range tokens {
				texts = append(texts, token+other, token+"\t"+other)
			}
			for _, text := range texts {
				seen[holds(t, ahead+text, few)]++
				seen[holds(t, strings.TrimRight(ahead, " ")+text, few)]++
			}
		}
	}
	if rare := seen.Rare(api.OK, api.ErrSign, api.ErrOver, api.ErrWord, api.ErrType, api.ErrTrail); len(rare) > 0 {
		t.Errorf("seldom met: %v", rare)
	}
}

// TestBlanks: blanks, tabs and line ends stand between tokens or not; other bytes do not.
func TestBlanks(t *testing.T) {
	const text = `not ( kind in ( read , write ) or obj >= 0x1f and site !~ " a" ) or all`
	const canonical = `not (kind in (read, write) or obj >= 31 and site !~ " a") or all`
	compiled(t, text, canonical)
	compiled(t, `not(kind in(read,write)or obj>=0x1f and site!~" a")or all`, canonical)
	for _, blanks := range []string{"\t", "\n", " \t\n", "\n\n  \t\t"} {
		spread := strings.NewReplacer(`" a"`, `" a"`, " ", blanks).Replace(blanks + text + blanks)
		compiled(t, spread, canonical)
	}
	compiled(t, "g=1or g=2and g=3", "g = 1 or g = 2 and g = 3") // a number ends where a letter begins
	compiled(t, `leaf="or"or leaf="and"and not all`, `leaf = "or" or leaf = "and" and not all`)
	wrongs{
		{"g=0x1and all", 6, api.ErrTrail}, // but a digit may be a letter
		{"g = 1 0", 6, api.ErrTrail},
		{"g = 0 x1", 6, api.ErrTrail},
		{"g = 0 x", 6, api.ErrTrail},
		{"notall", 0, api.ErrWord},
		{"not all andnone", 8, api.ErrTrail},
		{"no t all", 0, api.ErrWord},
		{"g ! = 1", 2, api.ErrSign},
		{"g < = 1", 4, api.ErrType},
		{"g> =1", 3, api.ErrType},
		{"leaf ! ~ \"\"", 5, api.ErrSign},
		{"kindin (read)", 0, api.ErrWord},
		{"kind in (re ad)", 9, api.ErrWord},
		{"g1 = 1", 1, api.ErrWord},
	}.hold(t)
	for _, blank := range []string{"\r", "\v", "\f", "\x00", "\xa0", "\u00a0", "\u2003"} {
		refused(t, "not"+blank+"all", 3, api.ErrSign)
		refused(t, "all"+blank, 3, api.ErrSign)
		refused(t, blank+"all", 0, api.ErrSign)
	}
}

// TestAllBytes: each byte where a token is asked for.
func TestAllBytes(t *testing.T) {
	const begin = " \t\nabcdefghijklmnopqrstuvwxyz0123456789\"(),=!<>~"
	for b := range 256 {
		sign := string([]byte{byte(b)})
		for _, ahead := range parts {
			if strings.IndexByte(begin, byte(b)) < 0 {
				refused(t, ahead+sign, len(ahead), api.ErrSign)
				refused(t, ahead+sign+"all", len(ahead), api.ErrSign)
			}
			for _, behind := range []string{"", " ", "x", "1", "=", "~", `"`, sign, sign + sign} {
				holds(t, ahead+sign+behind, few)
			}
		}
	}
}

// frame is an event with one frame.
func frame(s string) api.Event { return api.Event{Kind: api.Mark, Stack: []string{s}} }

// says fails if a token does not say just this text, or is not written so.
func says(t *testing.T, token, text, canonical string) {
	t.Helper()
	q := compiled(t, "leaf="+token, "leaf = "+canonical)
	for _, other := range []string{text, text + "x", text + "\x00", "x" + text, token, token[1 : len(token)-1], ""} {
		if got := q.Match(frame(other), 0); got != (other == text) {
			t.Errorf("P24.1: the token %q says %q: %v", token, other, got)
		}
	}
}

// TestBytesOfTexts: each byte within a text, behind a backslash, and as a digit behind \x; and how it is written.
func TestBytesOfTexts(t *testing.T) {
	for b := range 256 {
		sign := string([]byte{byte(b)})
		digits := strconv.FormatInt(int64(256+b), 16)[1:]
		canonical := `\x` + digits
		switch {
		case sign == `"` || sign == `\`:
			canonical = `\` + sign
		case sign == "\n":
			canonical = `\n`
		case sign == "\t":
			canonical = `\t`
		case b >= 32 && b <= 126:
			canonical = sign
		}
		says(t, `"\x`+digits+`"`, sign, `"`+canonical+`"`)
		says(t, `"a\x`+digits+`4"`, "a"+sign+"4", `"a`+canonical+`4"`)

		switch sign {
		case `"`:
			refused(t, `leaf = """`, 9, api.ErrSign)
		case `\`, "\n":
			refused(t, `leaf = "`+sign+`"`, 7, api.ErrSign)
			refused(t, `leaf = "a`+sign+` " or all`, 7, api.ErrSign)
		default:
			says(t, `"`+sign+`"`, sign, `"`+canonical+`"`)
			says(t, `"`+sign+`x`+sign+sign+`"`, sign+"x"+sign+sign, `"`+canonical+"x"+canonical+canonical+`"`)
		}

		if said, is := map[string]string{`"`: `"`, `\`: `\`, "n": "\n", "t": "\t"}[sign]; is {
			says(t, `"\`+sign+`"`, said, `"\`+sign+`"`)
			says(t, `"\`+sign+`\`+sign+`41"`, said+said+"41", `"\`+sign+`\`+sign+`41"`)
		} else {
			refused(t, `leaf = "\`+sign+`"`, 7, api.ErrSign)
			refused(t, `leaf = "\`+sign+`0x`, 7, api.ErrSign)
		}

		if strings.Contains("0123456789abcdef", sign) {
			continue
		}
		refused(t, `leaf = "\x`+sign+`"`, 7, api.ErrSign)
		refused(t, `leaf = "\x`+sign+`0"`, 7, api.ErrSign)
		refused(t, `leaf = "\x0`+sign+`"`, 7, api.ErrSign)
		refused(t, `leaf = "\x0`+sign+`0"`, 7, api.ErrSign)
	}
}

// TestTexts: whole texts, and such as are not closed.
func TestTexts(t *testing.T) {
	says(t, `""`, "", `""`)
	says(t, `" a  b "`, " a  b ", `" a  b "`)
	says(t, `"not ( all , 0x ! ="`, "not ( all , 0x ! =", `"not ( all , 0x ! ="`)
	says(t, "\"\xc3\xa9\xff\r\x00\t\"", "\xc3\xa9\xff\r\x00\t", `"\xc3\xa9\xff\x0d\x00\t"`)
	says(t, `"\\n\\x41\"\n\t\x41"`, "\\n\\x41\"\n\tA", `"\\n\\x41\"\n\tA"`)
	says(t, `"\x0a\x09\x22\x5c\x20\x7e\x7f\x1f"`, "\n\t\"\\ ~\x7f\x1f", `"\n\t\"\\ ~\x7f\x1f"`)
	for _, open := range []string{`"`, `"x`, `"x\"`, `"x\\\"`, `"\`, `"\x`, `"\x4`, `"\x41`, "\"x\n", "\"x\n\"", "\"\\\n\"", `"\X41"`, `"\x4G"`, `"\x4A"`, `"\r"`, `"\0"`, `"\u0041"`, `"\'"`, `"\x`, "'x'", "`x`"} {
		wrongs{{open, 0, api.ErrSign}, {"root != " + open, 8, api.ErrSign}, {"all " + open, 4, api.ErrSign}, {"g = " + open + " = ", 4, api.ErrSign}}.hold(t)
	}
}

// TestNumbers: the ends of what a number may be, in both bases, with zeros ahead; each is told by what it is.
func TestNumbers(t *testing.T) {
	zeros := strings.Repeat("0", 4000)
	for _, x := range []struct {
		token  string
		number uint64
	}{
		{"0", 0}, {"00", 0}, {"0x0", 0}, {"0x00", 0}, {zeros, 0}, {"0x" + zeros, 0},
		{"1", 1}, {"007", 7}, {"0x7", 7}, {"08", 8}, {"09", 9}, {"10", 10}, {"010", 10}, {"0x10", 16}, {"0x00a", 10}, {"0xabcdef", 0xabcdef}, {"1234567890", 1234567890}, {"0x123456789", 0x123456789},
		{"9223372036854775807", 1<<63 - 1}, {"9223372036854775808", 1 << 63}, {"0x8000000000000000", 1 << 63},
		{"18446744073709551614", 1<<64 - 2}, {"18446744073709551615", 1<<64 - 1}, {"0xffffffffffffffff", 1<<64 - 1}, {zeros + "18446744073709551615", 1<<64 - 1}, {"0x" + zeros + "ffffffffffffffff", 1<<64 - 1},
	} {
		q := compiled(t, "obj = "+x.token, "obj = "+strconv.FormatUint(x.number, 10))
		for _, n := range []uint64{x.number, x.number + 1, x.number - 1, 0, 1<<64 - 1} {
			if got := q.Match(api.Event{Obj: n}, 0); got != (n == x.number) {
				t.Errorf("P24.1: the number %s is %d: %v", brief(x.token), n, got)
			}
		}
	}
	for _, over := range []string{"18446744073709551616", "18446744073709551620", "28446744073709551615", "99999999999999999999", "184467440737095516150", "0x10000000000000000", "0xfffffffffffffffff", zeros + "18446744073709551616", "0x" + zeros + "10000000000000000", strings.Repeat("9", 4000), "0x" + strings.Repeat("f", 4000)} {
		wrongs{{"arg<=" + over, 5, api.ErrOver}, {over, 0, api.ErrOver}, {"all " + over, 4, api.ErrOver}, {"(all " + over + "?", 5, api.ErrOver}}.hold(t)
	}
	for _, none := range []string{"0x", "0xg", "0x 1", "0x-1", "0x!", "0xG", "0x\n", "0xx1", "0x)"} {
		wrongs{{"g = " + none, 4, api.ErrSign}, {none, 0, api.ErrSign}, {"all " + none, 4, api.ErrSign}}.hold(t)
	}
	wrongs{{"g = 0X1", 5, api.ErrSign}, {"g = 0Xg", 5, api.ErrSign}}.hold(t) // the number 0, and a byte that begins nothing
	wrongs{
		{"g = 00x1", 6, api.ErrTrail}, {"g = 0x1x1", 7, api.ErrTrail}, {"g = 1x", 5, api.ErrTrail}, {"g = 1_0", 5, api.ErrSign}, {"g = -1", 4, api.ErrSign}, {"g = +1", 4, api.ErrSign}, {"g = 1.0", 5, api.ErrSign}, {"g = 0b1", 5, api.ErrTrail}, {"g = 0o7", 5, api.ErrTrail}, {"g = ff", 4, api.ErrType}, {"g = x1", 4, api.ErrType}, {"g = 0xfg", 7, api.ErrTrail}, {"g = 0xfF", 7, api.ErrSign},
	}.hold(t)
}

// TestSigns: each row of bytes of which signs are made, read as the longest that there are.
func TestSigns(t *testing.T) {
	for _, field := range []string{"g", "leaf", "kind"} {
		for _, list := range samples.AllLists(3, []byte("!=<>~(),")...) {
			for _, operand := range []string{"1", `"x"`, "read", ""} {
				holds(t, field+string(list)+operand, few)
			}
		}
	}
	wrongs{
		{"g <== 1", 4, api.ErrType}, {"g =< 1", 3, api.ErrType}, {"g == 1", 3, api.ErrType}, {"g => 1", 3, api.ErrType}, {"g <> 1", 3, api.ErrType}, {"g !== 1", 4, api.ErrType}, {"g !< 1", 2, api.ErrSign}, {"g ! 1", 2, api.ErrSign}, {"g !! 1", 2, api.ErrSign}, {"g !", 2, api.ErrSign},
		{`leaf =~ "x"`, 6, api.ErrType}, {`leaf ~= "x"`, 6, api.ErrType}, {`leaf !~~ "x"`, 7, api.ErrType}, {`leaf !~ !`, 8, api.ErrSign}, {"kind == read", 6, api.ErrWord}, {"kind !~ read", 5, api.ErrType}, {"!all", 0, api.ErrSign}, {"!=", 0, api.ErrWord}, {"all!", 3, api.ErrSign}, {"all!=", 3, api.ErrTrail},
	}.hold(t)
}
