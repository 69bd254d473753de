package names

import (
	"strings"
	"testing"
	"unicode/utf8"
	"unsafe"

	"waterline/api"
)

func TestCount(t *testing.T) {
	for _, x := range []struct {
		s    string
		want int
	}{
		{"", 0}, {"a", 1}, {"abc", 3}, {"αβγ", 3}, {"a日😀", 3}, {"\x00", 1}, {"e\u0301", 2},
		{strings.Repeat("ω", api.MaxName), api.MaxName}, {strings.Repeat("ω", api.MaxName+1), api.MaxName + 1},
		{strings.Repeat("a", 100000), 100000},
		{"\xff", 1}, {"\xff\xfe", 2}, {"\x80\x80\x80", 3}, // bytes that begin no rune
		{"\xce", 1}, {"a\xceb", 3}, {"\xe6\x97", 2}, {"\xf0\x9f\x98", 3}, // runes that are cut short
		{"\xc0\x80", 2}, {"\xed\xa0\x80", 3}, {"\xf4\x90\x80\x80", 4}, // too long, a surrogate, beyond the last rune
		{"\ufffd", 1},
	} {
		if got := Count(x.s); got != x.want {
			t.Errorf("P101: Count(%+q) is %d, not %d", x.s, got, x.want)
		}
	}
}

func TestValid(t *testing.T) {
	for _, x := range []struct {
		s    string
		want bool
	}{
		{"", false}, {"a", true}, {"a1", true}, {"1a", true}, {"00000000", true}, {"abcαβγ12", true},
		{strings.Repeat("a", api.MaxName), true}, {strings.Repeat("a", api.MaxName+1), false},
		{strings.Repeat("ω", api.MaxName), true}, {strings.Repeat("ω", api.MaxName+1), false},
		{strings.Repeat("a", 100000), false},
		{"A", false}, {"aA", false}, {"Aa", false}, {"\u0391", false}, {"a b", false}, {" a", false}, {"a ", false}, {"a\n", false}, {"a-1", false},
		{"\x00", false}, {"a\x00", false}, {"é", false}, {"а", false}, {"日", false}, {"😀", false}, {"\ufffd", false},
		{"abcdefg-", false}, {"-abcdefg", false},
		{"\xff", false}, {"a\xff", false}, {"\xffa", false}, {"\xce", false}, {"a\xb1", false}, {"\xce\xce\xb1", false},
	} {
		if got := Valid(x.s); got != x.want {
			t.Errorf("P101: Valid(%+q) is %v, not %v", x.s, got, x.want)
		}
	}
}

func TestClean(t *testing.T) {
	for _, x := range []struct{ s, want string }{
		{"", ""}, {"A-1", "a1"}, {"a", "a"}, {"Hello, World", "hellowor"},
		{"abcdefgh", "abcdefgh"}, {"abcdefghi", "abcdefgh"}, {"ABCDEFGHI", "abcdefgh"},
		{"-a-b-c-d-e-f-g-h-i", "abcdefgh"}, {strings.Repeat("-", 1000) + "abc", "abc"}, {strings.Repeat("Ab", 50000), "abababab"},
		{strings.Repeat("\u03a9", api.MaxName), strings.Repeat("\u03c9", api.MaxName)}, {strings.Repeat("\u03a9", api.MaxName+1), strings.Repeat("\u03c9", api.MaxName)},
		{"\u03a1\u03a2\u03a3", "\u03c1\u03c3"}, {"\u03a2", ""}, {"\u03c2", "\u03c2"},
		{"---", ""}, {"\x00\x7f", ""}, {"é日😀", ""}, {"\u0410\u0430", ""}, {"\ufffd", ""}, {"\u212a\u0130", ""},
		{"\xff", ""}, {"a\xffb", "ab"}, {"\xce\xce\xb1", "α"}, {"\xceA", "a"}, {"\xc1\x81", ""}, {"\xed\xa0\x80z", "z"},
		{strings.Repeat("\xff", 20) + "abcdefghi", "abcdefgh"},
	} {
		if got := Clean(x.s); got != x.want {
			t.Errorf("P101: Clean(%+q) is %+q, not %+q", x.s, got, x.want)
		}
	}
}

// TestEdges holds the last rune within each range, and the first one beyond it, against what the chapter says of them.
func TestEdges(t *testing.T) {
	for _, x := range []struct {
		r     rune
		valid bool
		clean string
	}{
		{'/', false, ""}, {'0', true, "0"}, {'9', true, "9"}, {':', false, ""},
		{'@', false, ""}, {'A', false, "a"}, {'Z', false, "z"}, {'[', false, ""},
		{'`', false, ""}, {'a', true, "a"}, {'z', true, "z"}, {'{', false, ""},
		{0x390, false, ""}, {0x391, false, "\u03b1"}, {0x3a1, false, "\u03c1"}, {0x3a2, false, ""}, {0x3a3, false, "\u03c3"}, {0x3a9, false, "\u03c9"}, {0x3aa, false, ""},
		{0x3b0, false, ""}, {0x3b1, true, "\u03b1"}, {0x3c2, true, "\u03c2"}, {0x3c9, true, "\u03c9"}, {0x3ca, false, ""},
	} {
		s := string(x.r)
		if got := Valid(s); got != x.valid {
			t.Errorf("P101: Valid of %U is %v", x.r, got)
		}
		if got := Clean(s); got != x.clean {
			t.Errorf("P101: Clean of %U is %+q", x.r, got)
		}
	}
}

// TestEveryRune counts what passes, so that a rune far from the edges can't slip in.
func TestEveryRune(t *testing.T) {
	valid, cleaned := 0, 0
	for r := rune(0); r <= utf8.MaxRune; r++ {
		s := string(r)
		if Count(s) != 1 {
			t.Fatalf("P101: Count of %U is %d", r, Count(s))
		}
		if Valid(s) {
			valid++
		}
		if Clean(s) != "" {
			cleaned++
		}
	}
	if valid != 26+10+25 || cleaned != valid+26+24 {
		t.Errorf("P101: %d runes are names, %d are cleaned to one", valid, cleaned)
	}
}

// TestAllShortTexts goes through all texts of up to five bytes of a small alphabet of bytes (whole runes, cut ones, strays), against a slower reading of the chapter.
func TestAllShortTexts(t *testing.T) {
	alphabet := []byte{'a', 'B', '-', 0xce, 0xcf, 0x89, 0xa2, 0xb1, 0xff}
	var walk func(text []byte)
	walk = func(text []byte) {
		checkText(t, string(text))
		if len(text) == 5 {
			return
		}
		for _, b := range alphabet {
			walk(append(text[:len(text):len(text)], b))
		}
	}
	walk(nil)
}

func checkText(t *testing.T, s string) {
	t.Helper()
	runes := readRunes([]byte(s))
	if got := Count(s); got != len(runes) {
		t.Errorf("P101: Count(%+q) is %d, not %d", s, got, len(runes))
	}
	want := slowClean(runes)
	got := Clean(s)
	if got != want {
		t.Errorf("P101: Clean(%+q) is %+q, not %+q", s, got, want)
	}
	if Clean(got) != got || got != "" && !Valid(got) {
		t.Errorf("P101: Clean(%+q) is %+q, which is no name", s, got)
	}
	if valid := want != "" && want == s; Valid(s) != valid {
		t.Errorf("P101: Valid(%+q) is %v", s, !valid)
	}
}

func readRunes(b []byte) []rune {
	var out []rune
	for len(b) > 0 {
		r, n := utf8.DecodeRune(b)
		out = append(out, r)
		b = b[n:]
	}
	return out
}

func slowClean(runes []rune) string {
	const small = "abcdefghijklmnopqrstuvwxyz0123456789\u03b1\u03b2\u03b3\u03b4\u03b5\u03b6\u03b7\u03b8\u03b9\u03ba\u03bb\u03bc\u03bd\u03be\u03bf\u03c0\u03c1\u03c2\u03c3\u03c4\u03c5\u03c6\u03c7\u03c8\u03c9"
	const capitals = "ABCDEFGHIJKLMNOPQRSTUVWXYZ\u0391\u0392\u0393\u0394\u0395\u0396\u0397\u0398\u0399\u039a\u039b\u039c\u039d\u039e\u039f\u03a0\u03a1\u03a3\u03a4\u03a5\u03a6\u03a7\u03a8\u03a9"
	out, n := "", 0
	for _, r := range runes {
		if strings.ContainsRune(capitals, r) {
			r += 32
		}
		if strings.ContainsRune(small, r) && n < api.MaxName {
			out += string(r)
			n++
		}
	}
	return out
}

// TestOnlyArguments calls in several orders: an answer that hung on an earlier call would differ.
func TestOnlyArguments(t *testing.T) {
	texts := []string{"", "a", "A-1", "abcdefghi", "\u0391\u03a9", "\xff\xce\xb1", "z9"}
	type answer struct {
		count int
		valid bool
		clean string
	}
	ask := func(s string) answer { return answer{Count(s), Valid(s), Clean(s)} }
	var first []answer
	for _, s := range texts {
		first = append(first, ask(s))
	}
	for i := range texts {
		for j := range texts {
			ask(texts[j])
			if got := ask(texts[i]); got != first[i] {
				t.Errorf("P102: %+q behind %+q: %v, not %v", texts[i], texts[j], got, first[i])
			}
		}
	}
}

// TestMemory lays a text over bytes that can be looked at and turned: the calls must neither write them nor answer a piece of them.
func TestMemory(t *testing.T) {
	for _, s := range []string{"a", "abc", "abcdefgh", "abcdefghi", "A-1", "ab-", "αβγ", "\xffab"} {
		buffer := []byte(s + "spare")
		text := unsafe.String(&buffer[0], len(s))
		wantValid, wantClean := Valid(s), Clean(s)
		count, valid, clean := Count(text), Valid(text), Clean(text)
		if string(buffer) != s+"spare" {
			t.Errorf("P102: %+q was changed to %+q", s+"spare", buffer)
		}
		for i := range buffer {
			buffer[i] = '?'
		}
		if count != Count(s) || valid != wantValid || clean != wantClean {
			t.Errorf("P102: %+q: the answers turned with what was handed in: %d, %v, %+q", s, count, valid, clean)
		}
		if got := Clean(text); got != "" {
			t.Errorf("P102: %+q was kept: Clean of other bytes at its place is %+q", s, got)
		}
	}
}
