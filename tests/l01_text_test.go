package tests

import (
	"fmt"
	"math"
	"slices"
	"strings"
	"testing"

	"loop.example/g03407/impl"
)

// textsOver returns all texts of at most n of the pieces.
func textsOver(pieces []string, n int) []string {
	all := []string{""}
	last := all
	for range n {
		var next []string
		for _, s := range last {
			for _, p := range pieces {
				next = append(next, s+p)
			}
		}
		all = append(all, next...)
		last = next
	}
	return all
}

// edgeNumbers returns numbers around 0, the powers of ten and the ends of int.
func edgeNumbers() []int {
	l := []int{math.MinInt, math.MinInt + 1, math.MaxInt - 1, math.MaxInt}
	for n := -1100; n <= 1100; n++ {
		l = append(l, n)
	}
	for p := 10000; ; p *= 10 {
		for d := -2; d <= 2; d++ {
			l = append(l, p+d, -p+d, 7*(p/10)+d)
		}
		if p > math.MaxInt/10 {
			return l
		}
	}
}

func TestFormatInt(t *testing.T) {
	for _, n := range edgeNumbers() {
		if got, want := impl.FormatInt(n), fmt.Sprintf("%d", n); got != want {
			t.Errorf("FormatInt(%d) = %q", n, got)
		}
	}
	if got := impl.FormatInt(math.MinInt); got != "-9223372036854775808" {
		t.Errorf("FormatInt of the least int = %q", got)
	}
	if got := impl.FormatInt(math.MaxInt); got != "9223372036854775807" {
		t.Errorf("FormatInt of the greatest int = %q", got)
	}
}

func TestNumbersAreReadBack(t *testing.T) {
	for _, n := range edgeNumbers() {
		s := impl.FormatInt(n)
		short := len(strings.TrimPrefix(s, "-")) <= 12
		want := 0
		if short {
			want = n
		}
		if got, ok := impl.ParseInt(s); got != want || ok != short {
			t.Errorf("ParseInt(%q) = %d, %v", s, got, ok)
		}
	}
}

func TestParseIntDigits(t *testing.T) {
	for s, want := range map[string]int{
		"0": 0, "7": 7, "-7": -7, "10": 10, "-100": -100,
		"123456789012": 123456789012, "-123456789012": -123456789012,
		"100000000000": 100000000000, "-100000000000": -100000000000,
		"999999999999": 999999999999, "-999999999999": -999999999999,
	} {
		if got, ok := impl.ParseInt(s); got != want || !ok {
			t.Errorf("ParseInt(%q) = %d, %v", s, got, ok)
		}
	}
}

func TestParseIntRefuses(t *testing.T) {
	for _, s := range []string{
		"", "-", "--1", "+", "+1", "+0", "-0", "00", "01", "-01", "000000000001",
		" 1", "1 ", "1 2", "1\n", "\n1", "\t1", "1\x00", "\x001", "1-", "1-2", "- 1",
		"1.0", "1e3", "1_000", "1,000", "0x10", "0b1", "0o7", "A", "1A", "inf", "NaN",
		"\u0661", "\uff11", "\u22121", "1\xff", "\xff", "\xff1",
		// 13 digits and more
		"1000000000000", "-1000000000000", "1234567890123", "9999999999999", "-9999999999999",
		"0000000000001", "9223372036854775807", "-9223372036854775808",
		"9223372036854775808", "18446744073709551616", "18446744073709551617",
		"100000000000000000000000000000000000000", strings.Repeat("9", 10000), strings.Repeat("0", 10000),
	} {
		if got, ok := impl.ParseInt(s); got != 0 || ok {
			t.Errorf("ParseInt(%q) = %d, %v", s, got, ok)
		}
	}
}

func TestParseIntTakesOnlyWhatFormatIntWrites(t *testing.T) {
	written := map[string]int{}
	for n := -9999; n <= 99999; n++ {
		written[fmt.Sprint(n)] = n
	}
	for _, s := range textsOver([]string{"-", "+", "0", "1", "9", " ", "a", "_", "\xff"}, 5) {
		want, ok := written[s]
		if got, gotOK := impl.ParseInt(s); got != want || gotOK != ok {
			t.Errorf("ParseInt(%q) = %d, %v", s, got, gotOK)
		}
	}
}

func TestIsCodeOfEachByte(t *testing.T) {
	const capitals = "ABCDEFGHIJKLMNOPQRSTUVWXYZ"
	const others = "0123456789-"
	for b := range 256 {
		one := string([]byte{byte(b)})
		first := strings.Contains(capitals, one)
		later := first || strings.Contains(others, one)
		if impl.IsCode(one) != first {
			t.Errorf("IsCode(%q) is %v", one, !first)
		}
		if s := one + "Z"; impl.IsCode(s) != first {
			t.Errorf("IsCode(%q) is %v", s, !first)
		}
		for _, s := range []string{"A" + one, "A" + one + "Z", "ABCDEFG" + one} {
			if impl.IsCode(s) != later {
				t.Errorf("IsCode(%q) is %v", s, !later)
			}
		}
	}
}

func TestIsCodeLengths(t *testing.T) {
	for n := range 20 {
		for _, s := range []string{strings.Repeat("A", n), "Z" + strings.Repeat("-", n), "M" + strings.Repeat("9", n)} {
			want := len(s) >= 1 && len(s) <= impl.MaxCode
			if impl.IsCode(s) != want {
				t.Errorf("IsCode(%q) is %v", s, !want)
			}
		}
	}
	if impl.MaxCode != 8 {
		t.Errorf("MaxCode = %d", impl.MaxCode)
	}
}

func TestIsCodeRefuses(t *testing.T) {
	for _, s := range []string{
		"", "1A", "-A", "-", "a", "Ab", "A B", " A", "A ", "A_B", "A.B", "A\n", "A\x00",
		"\u00c4", "A\u00c4", "A\u0661", "\uff21", "A\uff21", "A\u2212", "\u0410", "A\xff", "A\xc3", "ABCDEFGHI", "ABCDEFG\u00c4",
	} {
		if impl.IsCode(s) {
			t.Errorf("IsCode(%q)", s)
		}
	}
}

func TestSplitWords(t *testing.T) {
	for _, c := range []struct {
		s    string
		want []string
	}{
		{"", nil},
		{"a", []string{"a"}},
		{"a bc d", []string{"a", "bc", "d"}},
		{"undo 12", []string{"undo", "12"}},
		{"a\tb c\nd", []string{"a\tb", "c\nd"}},
		{"\x00 \xff \xe2 \xe2\x80", []string{"\x00", "\xff", "\xe2", "\xe2\x80"}},
		{"\u00e4\u00a0b \u3000", []string{"\u00e4\u00a0b", "\u3000"}},
	} {
		if got, ok := impl.SplitWords(c.s); !ok || !slices.Equal(got, c.want) {
			t.Errorf("SplitWords(%q) = %q, %v", c.s, got, ok)
		}
	}
}

func TestSplitWordsRefuses(t *testing.T) {
	for _, s := range []string{" ", "  ", " a", "a ", " a ", "a  b", "a b ", " a b", "a b  c", "a   b", "a b c  "} {
		if got, ok := impl.SplitWords(s); ok || len(got) != 0 {
			t.Errorf("SplitWords(%q) = %q, %v", s, got, ok)
		}
	}
}

func TestWordsAreReadBack(t *testing.T) {
	for _, s := range textsOver([]string{"a", " ", "\n", "\xff", "\u00e4"}, 6) {
		got, ok := impl.SplitWords(s)
		want := !strings.HasPrefix(s, " ") && !strings.HasSuffix(s, " ") && !strings.Contains(s, "  ")
		if ok != want {
			t.Errorf("SplitWords(%q) = %q, %v", s, got, ok)
		}
		if !ok && len(got) != 0 {
			t.Errorf("SplitWords(%q) fails with %q", s, got)
		}
		if ok && impl.JoinWords(got) != s {
			t.Errorf("SplitWords(%q) = %q, which is not joined to it", s, got)
		}
		for _, w := range got {
			if w == "" || strings.Contains(w, " ") {
				t.Errorf("SplitWords(%q) = %q", s, got)
			}
		}
	}
}

func TestJoinedWordsAreSplit(t *testing.T) {
	pool := []string{"a", "bc", "-1", "\xff", "\u00e4", "x\ny"}
	for i := range 500 {
		var l []string
		for k := range i % 7 {
			l = append(l, pool[(i*5+k*k+k*i/3)%len(pool)])
		}
		if got, ok := impl.SplitWords(impl.JoinWords(l)); !ok || !slices.Equal(got, l) {
			t.Errorf("%q is joined and split to %q, %v", l, got, ok)
		}
	}
}

func TestJoinWords(t *testing.T) {
	for _, c := range []struct {
		l    []string
		want string
	}{
		{nil, ""},
		{[]string{}, ""},
		{[]string{""}, ""},
		{[]string{"a"}, "a"},
		{[]string{"a", "b"}, "a b"},
		{[]string{"", ""}, " "},
		{[]string{"a", "", "b"}, "a  b"},
		{[]string{" ", "a b", "\xff"}, "  a b \xff"},
		{[]string{"", "a", ""}, " a "},
	} {
		if got := impl.JoinWords(c.l); got != c.want {
			t.Errorf("JoinWords(%q) = %q", c.l, got)
		}
	}
}

func TestJoinWordsLeavesItsArgument(t *testing.T) {
	l := []string{"a", "", "b", "spare", "spare"}
	if got := impl.JoinWords(l[:3]); got != "a  b" {
		t.Errorf("JoinWords of a part = %q", got)
	}
	if want := []string{"a", "", "b", "spare", "spare"}; !slices.Equal(l, want) {
		t.Errorf("JoinWords changed its argument to %q", l)
	}
}

func TestSplitWordsGivesNewLists(t *testing.T) {
	const s = "a b"
	first, _ := impl.SplitWords(s)
	first[0] = "changed"
	if second, ok := impl.SplitWords(s); !ok || !slices.Equal(second, []string{"a", "b"}) {
		t.Errorf("SplitWords(%q) = %q, %v after its last result was changed", s, second, ok)
	}
}
