package runes_test

import (
	"cmp"
	"math"
	"slices"
	"strings"
	"testing"
	"unicode/utf8"
	"unsafe"

	"packhorse/api"
	"packhorse/runes"
)

// edgeBytes are bytes at which UTF-8 turns from one shape to the next, and those of a written U+FFFD.
const edgeBytes = "\x00a\x7f\x80\x8f\x90\x9f\xa0\xbd\xbf\xc0\xc1\xc2\xdf\xe0\xed\xef\xf0\xf4\xf5\xff"

// texts answers all texts of at most n bytes of edgeBytes.
func texts(n int) []string {
	all := []string{""}
	for from := 0; n > 0; n-- {
		to := len(all)
		for _, s := range all[from:to] {
			for i := range len(edgeBytes) {
				all = append(all, s+edgeBytes[i:i+1])
			}
		}
		from = to
	}
	return all
}

// everyRune asks of all that a rune may be, of what is none near the edges, and of the edges of an int32.
func everyRune(ask func(r rune)) {
	for r := rune(-300); r <= utf8.MaxRune+300; r++ {
		ask(r)
	}
	for _, r := range []rune{math.MinInt32, math.MinInt32 + 1, -0xD7, math.MaxInt32 - 1, math.MaxInt32} {
		ask(r)
	}
}

// P1.1

func TestValidAndCount(t *testing.T) {
	for _, x := range []struct {
		s     string
		valid bool
		n     int
	}{
		{"", true, 0},
		{"pack horse", true, 10},
		{"\x00\x1f\x7f", true, 3},
		{"né€😀", true, 4},
		{"\u0080\u07ff\u0800\uffff\U00010000\U0010ffff", true, 6},
		{"\uFFFD", true, 1},
		{"a\uFFFDb\uFFFD", true, 4},
		{"\xff", false, 1},
		{"\x80", false, 1},
		{"a\xc3", false, 2},
		{"\xc3a", false, 2},
		{"\xe2\x82", false, 2},
		{"\xef\xbf", false, 2},
		{"\xf0\x9f\x98", false, 3},
		{"\xc0\x80", false, 2},
		{"\xe0\x9f\xbf", false, 3},
		{"\xed\xa0\x80", false, 3},
		{"\xf4\x90\x80\x80", false, 4},
		{"\uFFFD\xff", false, 2},
		{"\xff\uFFFD", false, 2},
		{"\xef\xbf\uFFFD", false, 3},
	} {
		if got := runes.Valid(x.s); got != x.valid {
			t.Errorf("P1.1: Valid(%q): %v", x.s, got)
		}
		if got := runes.Count(x.s); got != x.n {
			t.Errorf("P1.1: Count(%q): %d, not %d", x.s, got, x.n)
		}
	}
}

func TestCut(t *testing.T) {
	for _, x := range []struct {
		s    string
		n    int
		want string
	}{
		{"", 0, ""},
		{"", 1, ""},
		{"", -1, ""},
		{"", math.MaxInt, ""},
		{"né€😀!", math.MinInt, ""},
		{"né€😀!", -1, ""},
		{"né€😀!", 0, ""},
		{"né€😀!", 1, "n"},
		{"né€😀!", 2, "né"},
		{"né€😀!", 3, "né€"},
		{"né€😀!", 4, "né€😀"},
		{"né€😀!", 5, "né€😀!"},
		{"né€😀!", 6, "né€😀!"},
		{"né€😀!", math.MaxInt, "né€😀!"},
		{"\xffé\xe2\x82", 1, "\xff"},
		{"\xffé\xe2\x82", 2, "\xffé"},
		{"\xffé\xe2\x82", 3, "\xffé\xe2"},
		{"\xffé\xe2\x82", 4, "\xffé\xe2\x82"},
		{"\uFFFDa", 1, "\uFFFD"},
	} {
		if got := runes.Cut(x.s, x.n); got != x.want {
			t.Errorf("P1.1: Cut(%q, %d): %q, not %q", x.s, x.n, got, x.want)
		}
	}
}

func TestDecode(t *testing.T) {
	for _, x := range []struct {
		s string
		r rune
		n int
	}{
		{"", 0xFFFD, 0},
		{"\x00", 0, 1},
		{"a", 'a', 1},
		{"ab", 'a', 1},
		{"é", 'é', 2},
		{"éa", 'é', 2},
		{"€\xff", '€', 3},
		{"😀😀", '😀', 4},
		{"\uFFFD", 0xFFFD, 3},
		{"\uFFFDa", 0xFFFD, 3},
		{"\xff", 0xFFFD, 1},
		{"\xffa", 0xFFFD, 1},
		{"\xe2\x82", 0xFFFD, 1},
		{"\xef\xbf", 0xFFFD, 1},
		{"\xed\xa0\x80", 0xFFFD, 1},
		{"\x82é", 0xFFFD, 1},
	} {
		if r, n := runes.Decode(x.s); r != x.r || n != x.n {
			t.Errorf("P1.1: Decode(%q): %U, %d, not %U, %d", x.s, r, n, x.r, x.n)
		}
	}
}

func TestEncode(t *testing.T) {
	for r, want := range map[rune]string{
		0:             "\x00",
		'a':           "a",
		0x7F:          "\x7f",
		0x80:          "\xc2\x80",
		0x7FF:         "\xdf\xbf",
		0x800:         "\xe0\xa0\x80",
		0xD7FF:        "\xed\x9f\xbf",
		0xD800:        "\xef\xbf\xbd",
		0xDFFF:        "\xef\xbf\xbd",
		0xE000:        "\xee\x80\x80",
		0xFFFD:        "\xef\xbf\xbd",
		0xFFFF:        "\xef\xbf\xbf",
		0x10000:       "\xf0\x90\x80\x80",
		0x10FFFF:      "\xf4\x8f\xbf\xbf",
		0x110000:      "\xef\xbf\xbd",
		-1:            "\xef\xbf\xbd",
		math.MinInt32: "\xef\xbf\xbd",
		math.MaxInt32: "\xef\xbf\xbd",
	} {
		if got := runes.Encode(r); got != want {
			t.Errorf("P1.1: Encode(%#x): %q, not %q", r, got, want)
		}
	}
}

func TestEveryRuneGoesThereAndBack(t *testing.T) {
	everyRune(func(r rune) {
		s := runes.Encode(r)
		if s != string(utf8.AppendRune(nil, r)) {
			t.Errorf("P1.1: Encode(%#x): %q", r, s)
		}
		want := r
		if !utf8.ValidRune(r) {
			want = 0xFFFD
		}
		if got, n := runes.Decode(s + "\x80"); got != want || n != len(s) {
			t.Errorf("P1.1: Decode of Encode(%#x): %#x, %d", r, got, n)
		}
		if !runes.Valid(s) || runes.Count(s) != 1 {
			t.Errorf("P1.1: Valid, Count of Encode(%#x): %v, %d", r, runes.Valid(s), runes.Count(s))
		}
	})
}

func TestEdgeTexts(t *testing.T) {
	for _, s := range texts(4) {
		if runes.Valid(s) != utf8.ValidString(s) {
			t.Errorf("P1.1: Valid(%q): %v", s, runes.Valid(s))
		}
		count := utf8.RuneCountInString(s)
		if runes.Count(s) != count {
			t.Errorf("P1.1: Count(%q): %d", s, runes.Count(s))
		}
		wantRune, wantBytes := utf8.DecodeRuneInString(s)
		if r, n := runes.Decode(s); r != wantRune || n != wantBytes {
			t.Errorf("P1.1: Decode(%q): %U, %d", s, r, n)
		}
		for n, at := 0, 0; n <= count; n++ {
			if got := runes.Cut(s, n); got != s[:at] {
				t.Errorf("P1.1: Cut(%q, %d): %q", s, n, got)
			}
			_, size := utf8.DecodeRuneInString(s[at:])
			at += size
		}
	}
}

// P1.2

func TestKey(t *testing.T) {
	for _, x := range []struct {
		s  string
		ok bool
	}{
		{"", false},
		{"a", true},
		{" ", true},
		{"a b", true},
		{"~", true},
		{"né€😀", true},
		{"\uFFFD", true},
		{"\u0080", true},
		{"\u00a0", true},
		{strings.Repeat("e", api.MaxKey), true},
		{strings.Repeat("e", api.MaxKey+1), false},
		{strings.Repeat("😀", api.MaxKey), true},
		{strings.Repeat("😀", api.MaxKey+1), false},
		{strings.Repeat("e", 1<<20), false},
		{"\x00", false},
		{"\t", false},
		{"a\n", false},
		{"\x1f", false},
		{"a\x1fb", false},
		{"\x7f", false},
		{"a\x7f", false},
		{"\xff", false},
		{"a\xff", false},
		{"\uFFFD\xff", false},
		{"\xe2\x82", false},
		{"\xed\xa0\x80", false},
		{strings.Repeat("e", api.MaxKey-1) + "\xff", false},
		{strings.Repeat("e", api.MaxKey-1) + "\x7f", false},
	} {
		if got := runes.Key(x.s); got != x.ok {
			t.Errorf("P1.2: Key(%q): %v", x.s, got)
		}
	}
	for _, s := range texts(3) {
		ok := s != "" && utf8.ValidString(s) && !strings.ContainsFunc(s, func(r rune) bool { return r < 0x20 || r == 0x7F })
		if runes.Key(s) != ok {
			t.Errorf("P1.2: Key(%q): %v", s, !ok)
		}
	}
}

func TestLess(t *testing.T) {
	for _, x := range []struct{ less, more string }{
		{"", "a"},
		{"", "\x00"},
		{"", "\xff"},
		{"a", "ab"},
		{"Z", "a"},
		{"ab", "b"},
		{"z", "é"},
		{"é", "€"},
		{"\uFFFF", "\U00010000"},
		{"\uE000", "\xff"},
		{"\xff", "\uFFFE"},
		{"\xff", "\U00010000"},
		// No rune differs and both have as many: by bytes.
		{"\x80", "\xff"},
		{"\uFFFD", "\xff"},
		{"\xbf", "\uFFFD"},
		{"a\x80b", "a\x81b"},
		{"\xe2\x82", "\xff\x80"},
		// The bytes differ, but the runes say more.
		{"\xffa", "\x80b"},
		{"\xff", "\uFFFD\uFFFD"},
		{"\uFFFD", "\xef\xbf"},
		{"\xff", "\x80\x80"},
	} {
		if !runes.Less(x.less, x.more) || runes.Less(x.more, x.less) {
			t.Errorf("P1.2: Less(%q, %q): %v, and back %v", x.less, x.more, runes.Less(x.less, x.more), runes.Less(x.more, x.less))
		}
	}
	for _, s := range []string{"", "a", "né€😀", "\uFFFD", "\xff", "\xe2\x82"} {
		if runes.Less(s, s) {
			t.Errorf("P1.2: Less(%q, %q)", s, s)
		}
	}
}

func TestLessOfAllPairs(t *testing.T) {
	l := append(texts(2), "\uFFFD", "\uFFFDa", "a\uFFFD", "\uFFFD\uFFFD", "é", "€", "😀", "\uFFFF")
	for _, a := range l {
		for _, b := range l {
			order := cmp.Or(slices.Compare([]rune(a), []rune(b)), strings.Compare(a, b))
			if runes.Less(a, b) != (order < 0) {
				t.Errorf("P1.2: Less(%q, %q): %v", a, b, order >= 0)
			}
		}
	}
}

func TestLower(t *testing.T) {
	const great = "ABCDEFGHIJKLMNOPQRSTUVWXYZ" +
		"ÀÁÂÃÄÅÆÇÈÉÊËÌÍÎÏÐÑÒÓÔÕÖØÙÚÛÜÝÞ" +
		"ΑΒΓΔΕΖΗΘΙΚΛΜΝΞΟΠΡΣΤΥΦΧΨΩ" +
		"АБВГДЕЖЗИЙКЛМНОПРСТУФХЦЧШЩЪЫЬЭЮЯ"
	small := map[rune]rune{}
	for _, r := range great {
		small[r] = r + 32
	}
	everyRune(func(r rune) {
		want, ok := small[r]
		if !ok {
			want = r
		}
		if got := runes.Lower(r); got != want {
			t.Errorf("P1.2: Lower(%#x): %#x, not %#x", r, got, want)
		}
	})
}

func TestFold(t *testing.T) {
	for s, want := range map[string]string{
		"":                       "",
		"Pack Horse 1":           "pack horse 1",
		"@AZ[`az{":               "@az[`az{",
		"\u00bfÀÖ\u00d7ØÞßàÿ":    "\u00bfàö\u00d7øþßàÿ",
		"\u0390Α\u03a1\u03a2ΣΩΪ": "\u0390α\u03c1\u03a2σωΪ",
		"ЏАЯаѐЁ":                 "ЏаяаѐЁ",
		"😀€":                     "😀€",
		"\uFFFD":                 "\uFFFD",
		"\xff":                   "\uFFFD",
		"A\xe2\x82Z":             "a\uFFFD\uFFFDz",
		"\xed\xa0\x80":           "\uFFFD\uFFFD\uFFFD",
		"\xc3":                   "\uFFFD",
	} {
		if got := runes.Fold(s); got != want {
			t.Errorf("P1.2: Fold(%q): %q, not %q", s, got, want)
		}
	}
	for _, s := range texts(3) {
		want := ""
		for _, r := range []rune(s) {
			want += string(runes.Lower(r))
		}
		if got := runes.Fold(s); got != want {
			t.Errorf("P1.2: Fold(%q): %q, not %q", s, got, want)
		}
	}
}

// P0.1, P0.3, P0.5

func TestLongTexts(t *testing.T) {
	const n = 1 << 20
	for _, unit := range []string{"a", "É", "\uFFFD", "\xff", "\xe2\x82"} {
		s := strings.Repeat(unit, n)
		each := utf8.RuneCountInString(unit)
		if runes.Count(s) != n*each || runes.Valid(s) != utf8.ValidString(unit) || runes.Key(s) {
			t.Errorf("P0.1: Count, Valid, Key of many %q", unit)
		}
		if runes.Cut(s, each*(n-1)) != s[len(unit):] || runes.Less(s, s) || !runes.Less(s, s+"!") {
			t.Errorf("P0.1: Cut, Less of many %q", unit)
		}
		if runes.Fold(s) != strings.Repeat(runes.Fold(unit), n) {
			t.Errorf("P0.1: Fold of many %q", unit)
		}
	}
}

func TestAnswersAreNewMemory(t *testing.T) {
	s := strings.Repeat("small ", 10)
	for n, got := range map[string]string{"Cut to a part": runes.Cut(s, 9), "Cut to all": runes.Cut(s, 99), "Fold": runes.Fold(s)} {
		if unsafe.StringData(got) == unsafe.StringData(s) {
			t.Errorf("P0.3: %s shares its argument's memory", n)
		}
	}
}

func TestSameAnswerAgain(t *testing.T) {
	for _, s := range texts(2) {
		before := strings.Clone(s)
		cut, fold, key := runes.Cut(s, 1), runes.Fold(s), runes.Key(s)
		if runes.Cut(s, 1) != cut || runes.Fold(s) != fold || runes.Key(s) != key || s != before {
			t.Errorf("P0.5: %q is told otherwise the second time", s)
		}
	}
}
