package tests

import (
	"math"
	"slices"
	"strings"
	"testing"

	"loop.example/g01087/impl"
)

// stringsOver returns all strings of at most most bytes over the bytes of alphabet, shorter ones first.
func stringsOver(alphabet string, most int) []string {
	all := []string{""}
	from := 0
	for range most {
		end := len(all)
		for _, s := range all[from:end] {
			for i := range len(alphabet) {
				all = append(all, s+alphabet[i:i+1])
			}
		}
		from = end
	}
	return all
}

// decimal writes n digit by digit, without the library that the program uses.
func decimal(n int) string {
	if n < 0 {
		return "-" + decimal(-n)
	}
	if n < 10 {
		return string([]byte{byte('0' + n)})
	}
	return decimal(n/10) + decimal(n%10)
}

// plainSum is the checksum as the document says it, byte by byte.
func plainSum(s string) int {
	h := 7
	for _, c := range []byte(s) {
		h = (41*h + int(c) + 1) % 999979
	}
	return h
}

func TestChapter1Constants(t *testing.T) {
	if impl.MaxString != 4000 || impl.MaxDecimal != 999999 {
		t.Error("limits", impl.MaxString, impl.MaxDecimal)
	}
}

func TestFormatIntNamedNumbers(t *testing.T) {
	for n, want := range map[int]string{
		0: "0", 1: "1", -1: "-1", 9: "9", 10: "10", -10: "-10", -12: "-12", 100: "100",
		999999: "999999", -999999: "-999999", 100000: "100000", -100000: "-100000",
	} {
		if s, ok := impl.FormatInt(n); !ok || s != want {
			t.Errorf("FormatInt(%d) = %q, %v", n, s, ok)
		}
	}
}

func TestFormatIntFailsOutsideTheRange(t *testing.T) {
	for _, n := range []int{1000000, -1000000, 1000001, 9999999, math.MaxInt32, math.MinInt32, math.MaxInt, math.MinInt, math.MinInt + 1} {
		if s, ok := impl.FormatInt(n); ok || s != "" {
			t.Errorf("FormatInt(%d) = %q, %v", n, s, ok)
		}
	}
}

func TestDecimalRoundTripOfAllNumbers(t *testing.T) {
	for n := -impl.MaxDecimal; n <= impl.MaxDecimal; n++ {
		s, ok := impl.FormatInt(n)
		if !ok || s != decimal(n) {
			t.Fatalf("FormatInt(%d) = %q, %v", n, s, ok)
		}
		if m, ok := impl.ParseInt(s); !ok || m != n {
			t.Fatalf("ParseInt(%q) = %d, %v", s, m, ok)
		}
	}
}

func TestParseIntTakesJustWhatFormatIntWrites(t *testing.T) {
	written := map[string]int{}
	for n := -impl.MaxDecimal; n <= impl.MaxDecimal; n++ {
		written[decimal(n)] = n
	}
	for _, s := range stringsOver("-+0195_ .ex", 5) {
		want, is := written[s]
		if n, ok := impl.ParseInt(s); ok != is || n != want {
			t.Fatalf("ParseInt(%q) = %d, %v", s, n, ok)
		}
	}
}

func TestParseIntRefuses(t *testing.T) {
	for _, s := range []string{
		"", "-", "+", "--1", "-0", "+0", "+1", "00", "01", "-01", "-00", "000001", "0999999",
		"1000000", "-1000000", "9999999", "9223372036854775807", "-9223372036854775808",
		"9223372036854775808", "18446744073709551617", "99999999999999999999999999",
		" 1", "1 ", "1\n", "1\x00", "\x001", "1x", "x", "0x1", "1_0", "1e3", "1.0", "1/1", "1-", "1-1", "a",
		"\u0661", "\uff11", "\u22121", "\xff", strings.Repeat("9", 5000), strings.Repeat("0", 100000) + "1",
	} {
		if n, ok := impl.ParseInt(s); ok || n != 0 {
			t.Errorf("ParseInt(%q) = %d, %v", s, n, ok)
		}
	}
}

func TestSplitStringNamedStrings(t *testing.T) {
	for _, c := range []struct {
		s, sep string
		want   []string
	}{
		{"a,,b", ",", []string{"a", "", "b"}},
		{"", ",", []string{""}},
		{",", ",", []string{"", ""}},
		{",,", ",", []string{"", "", ""}},
		{"abc", ",", []string{"abc"}},
		{",a", ",", []string{"", "a"}},
		{"a,", ",", []string{"a", ""}},
		{"a;b,c", ";", []string{"a", "b,c"}},
		{"aAa", "a", []string{"", "A", ""}},
		{"a\x00b", "\x00", []string{"a", "b"}},
		{"a\xffb\xff", "\xff", []string{"a", "b", ""}},
		{"\u00e9x", "\xa9", []string{"\xc3", "x"}}, // a byte in the midst of a character
		{"\u00e9\u00e9", "\xc3", []string{"", "\xa9", "\xa9"}},
		{"a\xfeb", "\xff", []string{"a\xfeb"}},
		{"a\ufffdb", "\xff", []string{"a\ufffdb"}},
		{"a.b", ".", []string{"a", "b"}},
		{"one\ntwo\n", "\n", []string{"one", "two", ""}},
	} {
		if l, ok := impl.SplitString(c.s, c.sep); !ok || !slices.Equal(l, c.want) {
			t.Errorf("SplitString(%q, %q) = %q, %v", c.s, c.sep, l, ok)
		}
	}
}

func TestSplitStringFails(t *testing.T) {
	long := strings.Repeat("a", impl.MaxString+1)
	for _, c := range [][2]string{
		{"a", ""}, {"", ""}, {"a,,b", ",,"}, {"", ",,"}, {"a\u00e9b", "\u00e9"}, {"a", long},
		{long, ","}, {strings.Repeat(",", impl.MaxString+1), ","}, {strings.Repeat("a,", 1000000), ","}, {long, ""}, {long, ",,"},
	} {
		if l, ok := impl.SplitString(c[0], c[1]); ok || len(l) != 0 {
			t.Errorf("SplitString of %d bytes at %q: %d elements, %v", len(c[0]), c[1], len(l), ok)
		}
	}
}

func TestSplitStringOfExactlyMaxString(t *testing.T) {
	l, ok := impl.SplitString(strings.Repeat(",", impl.MaxString), ",")
	if !ok || len(l) != impl.MaxString+1 || slices.ContainsFunc(l, func(x string) bool { return x != "" }) {
		t.Error("separators alone", len(l), ok)
	}
	whole := strings.Repeat("\xff", impl.MaxString)
	if l, ok := impl.SplitString(whole, ","); !ok || len(l) != 1 || l[0] != whole {
		t.Error("no separator", len(l), ok)
	}
	if l, ok := impl.SplitString(whole[1:]+",", ","); !ok || !slices.Equal(l, []string{whole[1:], ""}) {
		t.Error("one separator", len(l), ok)
	}
}

func TestJoinStringsNamedLists(t *testing.T) {
	for _, c := range []struct {
		parts []string
		sep   string
		want  string
	}{
		{[]string{"a", "", "b"}, ";", "a;;b"},
		{[]string{""}, ";", ""},
		{[]string{"", ""}, ";", ";"},
		{[]string{"a"}, ";", "a"},
		{[]string{"a,b", ",c"}, ";", "a,b;,c"},
		{[]string{"\xff", "\xfe"}, "\x00", "\xff\x00\xfe"},
		{[]string{"\xc3", ""}, "\xa9", "\u00e9"},
	} {
		if s, ok := impl.JoinStrings(c.parts, c.sep); !ok || s != c.want {
			t.Errorf("JoinStrings(%q, %q) = %q, %v", c.parts, c.sep, s, ok)
		}
	}
}

func TestJoinStringsFails(t *testing.T) {
	for _, c := range []struct {
		parts []string
		sep   string
	}{
		{nil, ";"}, {[]string{}, ";"}, {nil, ""},
		{[]string{"a", "b"}, ""}, {[]string{"a"}, ""}, {[]string{"a", "b"}, ";;"}, {[]string{"a"}, "\u00e9"},
		// a separator inside an element: alone, first, last, within, in the first, last and only element
		{[]string{";"}, ";"}, {[]string{";a", "b"}, ";"}, {[]string{"a;", "b"}, ";"}, {[]string{"a;b"}, ";"},
		{[]string{"a", "b", "c;d"}, ";"}, {[]string{"a", ";", "b"}, ";"}, {[]string{"", "", ";"}, ";"},
		{[]string{"a\u00e9"}, "\xa9"}, {[]string{"a\xffb"}, "\xff"}, {[]string{"x", "a\x00"}, "\x00"},
	} {
		if s, ok := impl.JoinStrings(c.parts, c.sep); ok || s != "" {
			t.Errorf("JoinStrings(%q, %q) = %q, %v", c.parts, c.sep, s, ok)
		}
	}
}

func TestJoinStringsAroundMaxString(t *testing.T) {
	text := strings.Repeat("a", impl.MaxString)
	for _, c := range []struct {
		parts []string
		want  bool
	}{
		{[]string{text}, true},
		{[]string{text + "a"}, false},
		{[]string{text, ""}, false},
		{[]string{"", text}, false},
		{[]string{text[1:], ""}, true},
		{[]string{"", text[1:]}, true},
		{[]string{text[:2000], text[:1999]}, true},
		{[]string{text[:2000], text[:2000]}, false},
		{[]string{"", text[2:], ""}, true},
		{[]string{"", text[1:], ""}, false},
		{make([]string, impl.MaxString+1), true},
		{make([]string, impl.MaxString+2), false},
		{make([]string, 100000), false},
		{slices.Repeat([]string{strings.Repeat(text, 1000)}, 5000), false},
	} {
		s, ok := impl.JoinStrings(c.parts, ";")
		if ok != c.want || ok && s != strings.Join(c.parts, ";") || !ok && s != "" {
			t.Errorf("%d parts, the first of %d bytes: %d bytes, %v", len(c.parts), len(c.parts[0]), len(s), ok)
		}
	}
}

func TestSplittingRoundTrip(t *testing.T) {
	for _, sep := range []string{",", "a", "\xff"} {
		for _, s := range stringsOver("a,\xff", 7) {
			l, ok := impl.SplitString(s, sep)
			if !ok || len(l) != strings.Count(s, sep)+1 {
				t.Fatalf("SplitString(%q, %q) = %q, %v", s, sep, l, ok)
			}
			if slices.ContainsFunc(l, func(x string) bool { return strings.Contains(x, sep) }) {
				t.Fatalf("a separator is left: %q at %q: %q", s, sep, l)
			}
			if joined, ok := impl.JoinStrings(l, sep); !ok || joined != s {
				t.Fatalf("%q at %q joined is %q, %v", s, sep, joined, ok)
			}
		}
	}
}

func TestJoiningRoundTrip(t *testing.T) {
	some := stringsOver("a;", 2)
	for _, first := range some {
		for _, second := range some {
			for _, third := range some {
				for _, parts := range [][]string{{first}, {first, second}, {first, second, third}} {
					s, ok := impl.JoinStrings(parts, ";")
					if inside := strings.Contains(strings.Join(parts, ""), ";"); ok == inside {
						t.Fatalf("JoinStrings(%q) = %q, %v", parts, s, ok)
					}
					if l, fine := impl.SplitString(s, ";"); ok && (!fine || !slices.Equal(l, parts)) {
						t.Fatalf("%q split is %q, %v", parts, l, fine)
					}
				}
			}
		}
	}
}

func TestLessString(t *testing.T) {
	for _, c := range []struct {
		a, b string
		want bool
	}{
		{"a", "ab", true}, {"ab", "a", false}, {"b", "ab", false}, {"ab", "b", true}, {"a", "a", false},
		{"", "", false}, {"", "\x00", true}, {"\x00", "", false}, {"a", "a\x00", true},
		{"a", "B", false}, {"B", "a", true}, {"10", "9", true}, {"-1", "0", true},
		{"z", "\x80", true}, {"\x7f", "\xff", true}, {"\xff", "\x7f", false}, {"\xc3\xa9", "\xff", true},
		{"\uffff", "\U00010000", true},
	} {
		if impl.LessString(c.a, c.b) != c.want {
			t.Errorf("LessString(%q, %q) is not %v", c.a, c.b, c.want)
		}
	}
}

func TestLessStringIsTheOrderOfBytes(t *testing.T) {
	some := stringsOver("\x00a\xff", 3)
	for _, a := range some {
		for _, b := range some {
			if want := slices.Compare([]byte(a), []byte(b)) < 0; impl.LessString(a, b) != want {
				t.Fatalf("LessString(%q, %q) is not %v", a, b, want)
			}
		}
	}
}

func TestChecksum(t *testing.T) {
	for s, want := range map[string]int{
		"": 7, "a": 385, "\x00": 288, "\xff": 543, "#": 323, "ab": 15884, "ba": 15924,
	} {
		if n, ok := impl.Checksum(s); !ok || n != want {
			t.Errorf("Checksum(%q) = %d, %v", s, n, ok)
		}
	}
	for _, s := range []string{
		"abcdef", "\u00e9\U0001f600", "a#385", strings.Repeat("\xff", 100),
		strings.Repeat("a", impl.MaxString-1), strings.Repeat("\xff", impl.MaxString), strings.Repeat("\x00", impl.MaxString),
	} {
		if n, ok := impl.Checksum(s); !ok || n != plainSum(s) {
			t.Errorf("Checksum of %d bytes = %d, %v", len(s), n, ok)
		}
	}
	for _, more := range []int{1, 2, 1000000} {
		if n, ok := impl.Checksum(strings.Repeat("a", impl.MaxString+more)); ok || n != 0 {
			t.Errorf("Checksum of %d bytes too many = %d, %v", more, n, ok)
		}
	}
}

func TestAppendChecksum(t *testing.T) {
	for s, want := range map[string]string{
		"": "#7", "a": "a#385", "ab": "ab#15884", "\xff": "\xff#543", "\x00": "\x00#288", "a\n": "a\n#15796",
	} {
		if x, ok := impl.AppendChecksum(s); !ok || x != want {
			t.Errorf("AppendChecksum(%q) = %q, %v", s, x, ok)
		}
	}
	for _, s := range []string{
		"#", "#a", "a#", "a#b", "##", "a#385", strings.Repeat("a", 100) + "#",
		strings.Repeat("a", impl.MaxString), strings.Repeat("a", impl.MaxString+1), strings.Repeat("#", impl.MaxString+1), strings.Repeat("a", 1000000),
	} {
		if x, ok := impl.AppendChecksum(s); ok || x != "" {
			t.Errorf("AppendChecksum of %d bytes = %q, %v", len(s), x, ok)
		}
	}
}

func TestChecksummedTextsAroundMaxString(t *testing.T) {
	exact, tooLong := 0, 0
	for _, c := range []string{"a", "b", "\xff", "\x00", "\n"} {
		for length := impl.MaxString - 10; length <= impl.MaxString+2; length++ {
			s := strings.Repeat(c, length)
			want := s + "#" + decimal(plainSum(s))
			x, ok := impl.AppendChecksum(s)
			back, fine := impl.VerifyChecksum(want)
			if len(want) > impl.MaxString {
				if ok || x != "" || fine || back != "" {
					t.Errorf("%d bytes of %q are taken: %v, %v", length, c, ok, fine)
				}
			} else if !ok || x != want || !fine || back != s {
				t.Errorf("%d bytes of %q are refused: %v, %v", length, c, ok, fine)
			}
			if len(want) == impl.MaxString {
				exact++
			}
			if len(want) == impl.MaxString+1 {
				tooLong++
			}
		}
	}
	if exact == 0 || tooLong == 0 {
		t.Error("no result of exactly MaxString bytes, or of one more, was tried", exact, tooLong)
	}
}

func TestVerifyChecksumReturnsTheText(t *testing.T) {
	for _, s := range stringsOver("a0-\n\xff", 5) {
		x, _ := impl.AppendChecksum(s)
		if back, ok := impl.VerifyChecksum(x); !ok || back != s {
			t.Fatalf("VerifyChecksum(%q) = %q, %v", x, back, ok)
		}
	}
}

func TestVerifyChecksumTakesJustWhatAppendChecksumWrites(t *testing.T) {
	written := map[string]string{}
	for _, s := range stringsOver("#0123458a", 5) {
		written[s+"#"+decimal(plainSum(s))] = s
	}
	for _, x := range stringsOver("#0123458a", 6) {
		want, is := written[x]
		if strings.Contains(want, "#") {
			want, is = "", false
		}
		if s, ok := impl.VerifyChecksum(x); ok != is || s != want {
			t.Fatalf("VerifyChecksum(%q) = %q, %v", x, s, ok)
		}
	}
}

func TestVerifyChecksumRefuses(t *testing.T) {
	doubled := "a#385"
	doubled += "#" + decimal(plainSum(doubled))
	for _, x := range []string{
		"", "#", "a", "a#", "#385", "a#384", "a#386", "a#0385", "a#+385", "a#-385", "a# 385", "a#385 ", "a#385\n",
		"b#385", "a385", "a##385", "a#385#", "a#385#1", "#a#385", doubled, "#07", "#-7", "#0", "7", "a#1000364", "A#385",
		strings.Repeat("a", 1000000), strings.Repeat("a", 1000000) + "#385", "a#" + strings.Repeat("0", 1000000) + "385",
	} {
		if s, ok := impl.VerifyChecksum(x); ok || s != "" {
			t.Errorf("VerifyChecksum(%.20q..) = %q, %v", x, s, ok)
		}
	}
}

// changesOf calls try with each string that differs from x in the byte at place i alone.
func changesOf(x string, i int, try func(string)) {
	changed := []byte(x)
	for c := range 256 {
		if byte(c) != x[i] {
			changed[i] = byte(c)
			try(string(changed))
		}
	}
}

func TestAnyChangedByteIsDetected(t *testing.T) {
	for _, s := range []string{
		"", "a", "ab", "aaaa", "0", "-12", "\x00", "\xff\xff", "\u00e9", "7", "38", "a 385", "step 1; ok@done\n",
		"The least cost of servers is that of a flow.", strings.Repeat("\xff", 150), strings.Repeat("\x00", 60),
	} {
		x, ok := impl.AppendChecksum(s)
		if !ok {
			t.Fatalf("AppendChecksum(%q) fails", s)
		}
		for i := range len(x) {
			changesOf(x, i, func(other string) {
				if back, ok := impl.VerifyChecksum(other); ok || back != "" {
					t.Errorf("%q passes for %q", other, x)
				}
			})
		}
	}
}

func TestAnyChangedByteOfALongTextIsDetected(t *testing.T) {
	var text strings.Builder
	for i := range impl.MaxString - 7 {
		c := byte(i * i)
		if c == '#' {
			c = 'x'
		}
		text.WriteByte(c)
	}
	x, ok := impl.AppendChecksum(text.String())
	if !ok || len(x) > impl.MaxString {
		t.Fatal("the long text is refused", len(x))
	}
	for i := 0; i < len(x); i++ {
		if i > 20 && i < len(x)-20 && i%97 != 0 {
			continue
		}
		changesOf(x, i, func(other string) {
			if back, ok := impl.VerifyChecksum(other); ok || back != "" {
				t.Errorf("another byte at %d passes", i)
			}
		})
	}
}

// Promise 13 for the only argument of chapter 1 that could be modified, and for its only result that could share memory.
func TestChapter1ModifiesNoArgument(t *testing.T) {
	kept := []string{"left", "x", "", "y", "right"}
	for _, sep := range []string{";", "x", "", ";;"} {
		whole := slices.Clone(kept)
		parts := whole[1:4] // with room behind it
		impl.JoinStrings(parts, sep)
		if !slices.Equal(whole, kept) {
			t.Errorf("JoinStrings at %q leaves %q", sep, whole)
		}
	}
	first, _ := impl.SplitString("a,b", ",")
	first[0] = "changed"
	_ = append(first[:1], "changed")
	if second, ok := impl.SplitString("a,b", ","); !ok || !slices.Equal(second, []string{"a", "b"}) {
		t.Errorf("a result of SplitString is changed through another: %q", second)
	}
}

func TestChapter1ReturnsForAllBytes(t *testing.T) {
	for c := range 256 {
		b := string([]byte{byte(c)})
		for _, s := range []string{b, b + b, "a" + b, b + "1", "-" + b, b + "#", "#" + b} {
			impl.ParseInt(s)
			if l, ok := impl.SplitString(s, b); !ok || len(l) < 2 {
				t.Errorf("SplitString(%q, %q) = %q, %v", s, b, l, ok)
			}
			if x, ok := impl.JoinStrings([]string{s}, b); ok || x != "" {
				t.Errorf("JoinStrings of %q at %q: %q", s, b, x)
			}
			if n, ok := impl.Checksum(s); !ok || n != plainSum(s) {
				t.Errorf("Checksum(%q) = %d, %v", s, n, ok)
			}
			if x, ok := impl.AppendChecksum(s); ok == strings.Contains(s, "#") || !ok && x != "" {
				t.Errorf("AppendChecksum(%q) = %q, %v", s, x, ok)
			}
			if x, ok := impl.VerifyChecksum(s); ok != (s == "#7") || x != "" { // #7 seals the empty string
				t.Errorf("VerifyChecksum(%q) = %q, %v", s, x, ok)
			}
			if impl.LessString(s, s) || !impl.LessString("", s) || impl.LessString(s, "") {
				t.Errorf("LessString with %q", s)
			}
		}
	}
}
