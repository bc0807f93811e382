package tests

import (
	"bytes"
	"fmt"
	"math"
	"slices"
	"strings"
	"testing"
	"unsafe"

	"loop.example/g01210/impl"
)

const (
	longest    = 4000
	sumStart   = 7
	sumFactor  = 41
	sumModulus = 999979
)

// expectedSum tells the checksum apart from the package, by the document's words.
func expectedSum(s string) int {
	h := sumStart
	for _, c := range []byte(s) {
		h = (sumFactor*h + int(c) + 1) % sumModulus
	}
	return h
}

// textWithSum returns a text of size bytes without '#' whose checksum is wanted, by a search
// through its last four bytes: fewer of them reach only a part of all checksums.
func textWithSum(t *testing.T, size, wanted int) string {
	t.Helper()
	text := bytes.Repeat([]byte{'x'}, size)
	before := expectedSum(string(text[:size-4]))
	for number := range 256 * 256 * 256 {
		last := []byte{byte(number >> 16), byte(number >> 8), byte(number), 0}
		h := before
		for _, c := range last[:3] {
			h = (sumFactor*h + int(c) + 1) % sumModulus
		}
		c := ((wanted-1-sumFactor*h)%sumModulus + sumModulus) % sumModulus
		if c >= 256 {
			continue
		}
		last[3] = byte(c)
		if !bytes.Contains(last, []byte{'#'}) {
			copy(text[size-4:], last)
			return string(text)
		}
	}
	t.Fatal("no text of", size, "bytes has the checksum", wanted)
	return ""
}

// short cuts what a message shows of a long text.
func short(s string) string {
	if len(s) > 40 {
		return fmt.Sprintf("%q.. (%d bytes)", s[:40], len(s))
	}
	return fmt.Sprintf("%q", s)
}

func TestLimits(t *testing.T) {
	if impl.MaxString != 4000 || impl.MaxDecimal != 999999 {
		t.Error("limits", impl.MaxString, impl.MaxDecimal)
	}
}

func TestNumbersRoundTrip(t *testing.T) {
	for n := -999999; n <= 999999; n++ {
		want := fmt.Sprint(n)
		if s, ok := impl.FormatInt(n); !ok || s != want {
			t.Fatalf("FormatInt(%d) = %q, %v", n, s, ok)
		}
		if m, ok := impl.ParseInt(want); !ok || m != n {
			t.Fatalf("ParseInt(%q) = %d, %v", want, m, ok)
		}
	}
}

func TestNumbersBeyondTheBounds(t *testing.T) {
	beyond := []int{1000000, 1000001, 9999999, 1 << 32, 1<<32 + 5, math.MaxInt, math.MaxInt - 1}
	for _, n := range beyond {
		for _, m := range []int{n, -n} {
			if s, ok := impl.FormatInt(m); ok || s != "" {
				t.Errorf("FormatInt(%d) = %q, %v", m, s, ok)
			}
			if k, ok := impl.ParseInt(fmt.Sprint(m)); ok || k != 0 {
				t.Errorf("ParseInt of %d = %d, %v", m, k, ok)
			}
		}
	}
	if s, ok := impl.FormatInt(math.MinInt); ok || s != "" {
		t.Errorf("FormatInt of the least int = %q, %v", s, ok)
	}
}

func TestTextsOfNoNumber(t *testing.T) {
	texts := []string{
		"", "-", "+", "--", "-0", "+0", "00", "-00", "000000", "01", "-01", "007", "0000001",
		"+1", "-+1", "+-1", "--1", "1-", "1-1", " 1", "1 ", "- 1", "1\n", "\t1", "1\x00",
		"a", "1x", "x1", "1a2", "0x1", "0b1", "0o7", "1_000", "_1", "1,000", "1.0", ".5", "1e3", "1e",
		"0.", "inf", "nan", "/", ":", "1/", "1:", "\xff", "1\x80", "\x801", "\u0661", "\uff11", "\u22121", "²",
		"1000000", "-1000000", "999999 ", "9999990", "0999999", "-0999999",
		"9223372036854775807", "9223372036854775808", "-9223372036854775808", "-9223372036854775809",
		"18446744073709551615", "18446744073709551616", "18446744073709551617", "4294967297", "-4294967295",
	}
	for _, digits := range []int{7, 19, 20, 21, 100, longest, longest + 1, 100000} {
		texts = append(texts, strings.Repeat("0", digits), strings.Repeat("0", digits-1)+"1",
			strings.Repeat("9", digits), "1"+strings.Repeat("0", digits-1),
			"-"+strings.Repeat("9", digits), "-"+strings.Repeat("0", digits))
	}
	for _, s := range texts {
		if n, ok := impl.ParseInt(s); ok || n != 0 {
			t.Errorf("ParseInt(%s) = %d, %v", short(s), n, ok)
		}
	}
}

// TestTextsOfUpToThreeBytes compares ParseInt with the texts that FormatInt can write.
func TestTextsOfUpToThreeBytes(t *testing.T) {
	written := map[string]int{}
	for n := -99; n <= 999; n++ {
		written[fmt.Sprint(n)] = n
	}
	signs := "+-. /0123456789:aex\x00\x80\xff"
	texts := []string{""}
	for start := 0; len(texts[start]) < 3; start++ {
		for _, c := range []byte(signs) {
			texts = append(texts, texts[start]+string([]byte{c}))
		}
	}
	for _, s := range texts {
		want, isNumber := written[s]
		if n, ok := impl.ParseInt(s); ok != isNumber || n != want {
			t.Errorf("ParseInt(%q) = %d, %v", s, n, ok)
		}
	}
}

func TestSplitAndJoin(t *testing.T) {
	long := strings.Repeat("b", longest)
	cases := []struct {
		text, sep string
		parts     []string
	}{
		{"", ",", []string{""}},
		{",", ",", []string{"", ""}},
		{"a", ",", []string{"a"}},
		{"a,", ",", []string{"a", ""}},
		{",a", ",", []string{"", "a"}},
		{"a,,b", ",", []string{"a", "", "b"}},
		{"a;;b", ";", []string{"a", "", "b"}},
		{",,,", ",", []string{"", "", "", ""}},
		{"one two three", " ", []string{"one", "two", "three"}},
		{"a\nb\n", "\n", []string{"a", "b", ""}},
		{"a\x00b", "\x00", []string{"a", "b"}},
		{"a,b;c", ";", []string{"a,b", "c"}},
		{"é,\u20ac", ",", []string{"é", "\u20ac"}},
		{"é", "\xa9", []string{"\xc3", ""}},
		{"\xff\xfe\xff", "\xff", []string{"", "\xfe", ""}},
		{"\xff\xfe\xff", "\xfe", []string{"\xff", "\xff"}},
		{"1#2#3", "#", []string{"1", "2", "3"}},
		{long, ",", []string{long}},
		{long[1:] + ",", ",", []string{long[1:], ""}},
		{"," + long[1:], ",", []string{"", long[1:]}},
		{strings.Repeat(",", longest), ",", make([]string, longest+1)},
	}
	for _, c := range cases {
		parts, ok := impl.SplitString(c.text, c.sep)
		if !ok || !slices.Equal(parts, c.parts) {
			t.Errorf("SplitString(%s, %q) = %d parts, %v", short(c.text), c.sep, len(parts), ok)
		}
		text, ok := impl.JoinStrings(c.parts, c.sep)
		if !ok || text != c.text {
			t.Errorf("JoinStrings of %s at %q = %s, %v", short(c.text), c.sep, short(text), ok)
		}
	}
}

func TestSplitAtEachByte(t *testing.T) {
	for c := range 256 {
		sep, other := string([]byte{byte(c)}), string([]byte{byte(c) ^ 0x80})
		want := []string{other, "", other + other}
		text := other + sep + sep + other + other
		if parts, ok := impl.SplitString(text, sep); !ok || !slices.Equal(parts, want) {
			t.Errorf("SplitString(%q, %q) = %q, %v", text, sep, parts, ok)
		}
		if s, ok := impl.JoinStrings(want, sep); !ok || s != text {
			t.Errorf("JoinStrings(%q, %q) = %q, %v", want, sep, s, ok)
		}
		if s, ok := impl.JoinStrings([]string{other, sep}, sep); ok || s != "" {
			t.Errorf("JoinStrings with the element %q = %q, %v", sep, s, ok)
		}
	}
}

// TestSplitRoundTrip goes through all texts of up to six of three signs.
func TestSplitRoundTrip(t *testing.T) {
	texts := []string{""}
	for start := 0; len(texts[start]) < 6; start++ {
		for _, sign := range []string{"a", ",", "\xe9"} {
			texts = append(texts, texts[start]+sign)
		}
	}
	for _, s := range texts {
		for _, sep := range []string{",", "a", "\xe9", "z"} {
			parts, ok := impl.SplitString(s, sep)
			if !ok || !slices.Equal(parts, strings.Split(s, sep)) {
				t.Fatalf("SplitString(%q, %q) = %q, %v", s, sep, parts, ok)
			}
			if joined, ok := impl.JoinStrings(parts, sep); !ok || joined != s {
				t.Fatalf("JoinStrings(%q, %q) = %q, %v", parts, sep, joined, ok)
			}
		}
	}
}

func TestSeparatorsOfNoOrSeveralBytes(t *testing.T) {
	for _, sep := range []string{"", ",,", "ab", "é", "\u20ac", "\x00\x00", strings.Repeat(",", longest)} {
		for _, s := range []string{"", "a", "a,b", "a,,b", "é"} {
			if parts, ok := impl.SplitString(s, sep); ok || len(parts) != 0 {
				t.Errorf("SplitString(%q, %s) = %q, %v", s, short(sep), parts, ok)
			}
		}
		for _, parts := range [][]string{nil, {""}, {"a"}, {"a", "b"}} {
			if s, ok := impl.JoinStrings(parts, sep); ok || s != "" {
				t.Errorf("JoinStrings(%q, %s) = %q, %v", parts, short(sep), s, ok)
			}
		}
	}
}

func TestSplitTooLong(t *testing.T) {
	for _, s := range []string{
		strings.Repeat("a", longest+1), strings.Repeat(",", longest+1), strings.Repeat("a,", longest),
		strings.Repeat("é", longest/2) + ",",
	} {
		if parts, ok := impl.SplitString(s, ","); ok || len(parts) != 0 {
			t.Errorf("SplitString(%s) = %d parts, %v", short(s), len(parts), ok)
		}
	}
	s := strings.Repeat("é", longest/2)
	if parts, ok := impl.SplitString(s, ","); !ok || !slices.Equal(parts, []string{s}) {
		t.Errorf("SplitString of %d bytes = %d parts, %v", len(s), len(parts), ok)
	}
}

func TestJoinFails(t *testing.T) {
	half := strings.Repeat("a", longest/2)
	cases := [][]string{
		nil, {},
		{","}, {"a,"}, {",a"}, {"a,b"}, {"a", ","}, {",", "a"}, {"a", "b,c", "d"}, {"a", "b", "c,"}, {"", "", ",,"},
		{half + half + "a"}, {half, half}, {half, half[1:], ""}, {"", half + half}, {half + half, ""},
		make([]string, longest+2), make([]string, 3*longest),
		{strings.Repeat("a", 1<<20), ","}, {strings.Repeat(",", longest)}, {half + half[1:] + ","},
	}
	for _, parts := range cases {
		if s, ok := impl.JoinStrings(parts, ","); ok || s != "" {
			t.Errorf("JoinStrings(%s of %d) = %s, %v", short(strings.Join(parts, ",")), len(parts), short(s), ok)
		}
	}
	want := half + "," + half[1:]
	if s, ok := impl.JoinStrings([]string{half, half[1:]}, ","); !ok || s != want {
		t.Errorf("JoinStrings to %d bytes = %s, %v", len(want), short(s), ok)
	}
}

func TestJoinLeavesItsParts(t *testing.T) {
	backing := []string{"a", "b", "c", "d"}
	parts := backing[:2]
	impl.JoinStrings(parts, ";")
	impl.JoinStrings(parts, "a")
	if !slices.Equal(backing, []string{"a", "b", "c", "d"}) {
		t.Errorf("the parts became %q", backing)
	}
}

// shareMemory reports whether two texts have a byte of memory in common.
func shareMemory(a, b string) bool {
	if a == "" || b == "" {
		return false
	}
	startA, startB := uintptr(unsafe.Pointer(unsafe.StringData(a))), uintptr(unsafe.Pointer(unsafe.StringData(b)))
	return startA < startB+uintptr(len(b)) && startB < startA+uintptr(len(a))
}

func TestResultsAreNewMemory(t *testing.T) {
	text := strings.Clone("some text, of two parts")
	first, _ := impl.SplitString(text, ",")
	second, _ := impl.SplitString(text, ",")
	if shareMemory(first[0], text) || shareMemory(first[1], text) || shareMemory(first[0], second[0]) {
		t.Error("parts share memory")
	}
	first[0] = "x"
	if !slices.Equal(second, []string{"some text", " of two parts"}) {
		t.Errorf("one list of parts changed another one to %q", second)
	}
	if joined, _ := impl.JoinStrings([]string{text}, ";"); joined != text || shareMemory(joined, text) {
		t.Error("a single part shares memory with the joined text")
	}
	sealed, _ := impl.AppendChecksum(text)
	opened, _ := impl.VerifyChecksum(sealed)
	if opened != text || shareMemory(sealed, text) || shareMemory(opened, sealed) {
		t.Error("checksummed texts share memory")
	}
}

// bytesLess compares by the document's words, not by the language's operator.
func bytesLess(a, b string) bool {
	for i := range min(len(a), len(b)) {
		if a[i] != b[i] {
			return a[i] < b[i]
		}
	}
	return len(a) < len(b)
}

func TestLessString(t *testing.T) {
	texts := []string{
		"", "\x00", "\x00\x00", " ", "-1", "0", "1", "10", "2", "9", "A", "Z", "a", "aa", "ab", "ab\x00", "abc", "b", "ba",
		"z", "\x7f", "\x80", "\xc3", "é", "éa", "\u20ac", "\U0001d11e", "\xff", "\xff\xff",
		strings.Repeat("a", longest), strings.Repeat("a", longest+1), strings.Repeat("a", longest) + "b",
	}
	for c := range 256 {
		texts = append(texts, string([]byte{byte(c)}), string([]byte{'a', byte(c)}))
	}
	for _, a := range texts {
		for _, b := range texts {
			if got := impl.LessString(a, b); got != bytesLess(a, b) {
				t.Fatalf("LessString(%s, %s) = %v", short(a), short(b), got)
			}
		}
	}
	if !impl.LessString("a", "ab") || impl.LessString("ab", "a") || impl.LessString("ab", "ab") {
		t.Error("a prefix, or a text and itself")
	}
	if !impl.LessString("z", "é") || impl.LessString("\x80", "\x7f") {
		t.Error("bytes above 127")
	}
}

func TestChecksum(t *testing.T) {
	// Reckoned by hand from the start, the factor and the modulus.
	for s, want := range map[string]int{
		"": 7, "a": 385, "b": 386, "\x00": 288, "\xff": 543, "aa": 41*385 + 98, "ab": 41*385 + 99, "#": 323,
	} {
		if n, ok := impl.Checksum(s); !ok || n != want {
			t.Errorf("Checksum(%q) = %d, %v", s, n, ok)
		}
	}
	all := make([]byte, 256)
	for c := range all {
		all[c] = byte(c)
	}
	for _, s := range []string{
		string(all), "é\u20ac\U0001d11e", "\xff\xfe\x80", "a#b", "##", strings.Repeat("\xff", longest),
		strings.Repeat("a", longest), strings.Repeat("#", longest), strings.Repeat("\x00", longest-1),
	} {
		if n, ok := impl.Checksum(s); !ok || n != expectedSum(s) {
			t.Errorf("Checksum(%s) = %d, %v", short(s), n, ok)
		}
	}
	for _, sum := range []int{0, 1, 9, 10, 99999, 100000, sumModulus - 1} {
		if n, ok := impl.Checksum(textWithSum(t, 10, sum)); !ok || n != sum {
			t.Errorf("Checksum of a text with %d = %d, %v", sum, n, ok)
		}
	}
	for _, size := range []int{longest + 1, longest + 2, 3 * longest} {
		if n, ok := impl.Checksum(strings.Repeat("a", size)); ok || n != 0 {
			t.Errorf("Checksum of %d bytes = %d, %v", size, n, ok)
		}
	}
}

// sealedTexts are texts that AppendChecksum takes, most of them short.
func sealedTexts(t *testing.T) []string {
	texts := []string{
		"", "a", "b", "aa", "1", "385", "hello world", "0 roll@1 2 3", "a,b;c", "\x00", "\n", "\"$",
		"\x7f", "\x80", "\xff", "\xff\xfe\xfd", "é", "\u20ac and \U0001d11e",
	}
	for _, sum := range []int{0, 1, 9, 10, 99, 100, 1234, 99999, 100000, sumModulus - 1} {
		texts = append(texts, textWithSum(t, 12, sum))
	}
	return texts
}

func TestAppendAndVerify(t *testing.T) {
	for _, s := range sealedTexts(t) {
		want := fmt.Sprintf("%s#%d", s, expectedSum(s))
		if got, ok := impl.AppendChecksum(s); !ok || got != want {
			t.Errorf("AppendChecksum(%q) = %q, %v", s, got, ok)
		}
		if got, ok := impl.VerifyChecksum(want); !ok || got != s {
			t.Errorf("VerifyChecksum(%q) = %q, %v", want, got, ok)
		}
	}
}

func TestTextsWithSignOfChecksum(t *testing.T) {
	for _, s := range []string{"#", "##", "a#", "#a", "a#b", "a#385", strings.Repeat("x", 3000) + "#", "\xff#"} {
		if got, ok := impl.AppendChecksum(s); ok || got != "" {
			t.Errorf("AppendChecksum(%s) = %s, %v", short(s), short(got), ok)
		}
		sealed := fmt.Sprintf("%s#%d", s, expectedSum(s))
		if got, ok := impl.VerifyChecksum(sealed); ok || got != "" {
			t.Errorf("VerifyChecksum(%s) = %s, %v", short(sealed), short(got), ok)
		}
	}
}

func TestLengthsOfSealedTexts(t *testing.T) {
	for size := longest - 8; size <= longest+2; size++ {
		for digits, sum := range []int{7, 42, 385, 1234, 99999, 100000} {
			s := textWithSum(t, size, sum)
			sealed := fmt.Sprintf("%s#%d", s, sum)
			if len(sealed) != size+2+digits {
				t.Fatal("a wrong case", size, sum)
			}
			fits := len(sealed) <= longest
			want, text := "", ""
			if fits {
				want, text = sealed, s
			}
			if got, ok := impl.AppendChecksum(s); ok != fits || got != want {
				t.Errorf("AppendChecksum of %d bytes with %d = %s, %v", size, sum, short(got), ok)
			}
			if got, ok := impl.VerifyChecksum(sealed); ok != fits || got != text {
				t.Errorf("VerifyChecksum of %d bytes = %s, %v", len(sealed), short(got), ok)
			}
		}
	}
	for _, size := range []int{longest + 1, 10 * longest} {
		if got, ok := impl.AppendChecksum(strings.Repeat("a", size)); ok || got != "" {
			t.Errorf("AppendChecksum of %d bytes = %s, %v", size, short(got), ok)
		}
	}
}

func TestTextsWithoutTheirChecksum(t *testing.T) {
	for _, s := range []string{
		"", "a", "385", "#", "##", "a#", "#385", "a#384", "a#386", "a#0385", "a#+385", "a#-385", "a#385 ", "a# 385",
		"a#385\n", "a#385#", "a#385#1", "a##385", "#a#385", "a#1000364", "a#385.0", "b#385", "aa#385", "a385#", "#a385",
		"#07", "#-7", "#6", "#8", "a#385x", "a#0x181", "a#\uff13\uff18\uff15",
	} {
		if got, ok := impl.VerifyChecksum(s); ok || got != "" {
			t.Errorf("VerifyChecksum(%q) = %q, %v", s, got, ok)
		}
	}
	for _, digits := range []int{20, longest - 10, longest, 2 * longest} {
		zeros := strings.Repeat("0", digits)
		for _, s := range []string{"a#" + zeros + "385", zeros, zeros + "#", "#" + zeros, "a#385" + zeros} {
			if got, ok := impl.VerifyChecksum(s); ok || got != "" {
				t.Errorf("VerifyChecksum(%s) = %s, %v", short(s), short(got), ok)
			}
		}
	}
	if got, ok := impl.VerifyChecksum("#7"); !ok || got != "" {
		t.Errorf("VerifyChecksum of the sealed empty text = %q, %v", got, ok)
	}
}

func TestEachChangedByteIsDetected(t *testing.T) {
	for _, s := range sealedTexts(t) {
		sealed, ok := impl.AppendChecksum(s)
		if !ok {
			t.Fatalf("AppendChecksum(%q) fails", s)
		}
		for place := range len(sealed) {
			changed := []byte(sealed)
			for c := range 256 {
				changed[place] = byte(c)
				got, ok := impl.VerifyChecksum(string(changed))
				if byte(c) == sealed[place] {
					if !ok || got != s {
						t.Fatalf("VerifyChecksum(%q) = %q, %v", changed, got, ok)
					}
				} else if ok || got != "" {
					t.Fatalf("VerifyChecksum(%q), changed from %q, = %q, %v", changed, sealed, got, ok)
				}
			}
		}
	}
}

func TestEachChangedByteOfALongTextIsDetected(t *testing.T) {
	for _, s := range []string{textWithSum(t, longest-7, 654321), textWithSum(t, longest-2, 8)} {
		sealed, ok := impl.AppendChecksum(s)
		if !ok || len(sealed) != longest {
			t.Fatalf("AppendChecksum(%s) = %s, %v", short(s), short(sealed), ok)
		}
		for place := range len(sealed) {
			old := sealed[place]
			for _, c := range []byte{old + 1, old - 1, old ^ 0x80, 255 - old, old ^ 1, '#', '0'} {
				if c == old {
					continue
				}
				changed := []byte(sealed)
				changed[place] = c
				if got, ok := impl.VerifyChecksum(string(changed)); ok || got != "" {
					t.Fatalf("the byte %d at %d instead of %d is not detected", c, place, old)
				}
			}
		}
	}
}
