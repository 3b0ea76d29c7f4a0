package decimal

import (
	"math"
	"math/big"
	"regexp"
	"slices"
	"strings"
	"testing"

	"loftblock/api"
)

const limit = 1 << 60

// numbers returns numbers near zero, near powers of ten and of two, and near both limits.
func numbers() []int {
	var list []int
	near := func(n int) {
		for d := -3; d <= 3; d++ {
			if n+d >= -limit && n+d <= limit {
				list = append(list, n+d, -n-d)
			}
		}
	}
	for n := 1; n <= limit; n *= 2 {
		near(n)
	}
	for digits, n := 1, 1; digits <= 19; digits, n = digits+1, 10*n {
		near(n)
		near(5 * (n / 10))
	}
	slices.Sort(list)
	return slices.Compact(list)
}

// strangers are integers that are no numbers.
var strangers = []int{limit + 1, -limit - 1, 2 * limit, 10 * (limit / 2), math.MaxInt, math.MinInt, math.MinInt + 1}

// expected writes n by the definition of the decimal text, with package math/big.
func expected(n, digits int) string {
	unit := new(big.Int).Exp(big.NewInt(10), big.NewInt(int64(digits)), nil)
	whole, part := new(big.Int).QuoRem(new(big.Int).Abs(big.NewInt(int64(n))), unit, new(big.Int))
	s := whole.String()
	if digits > 0 {
		p := part.String()
		s += "." + strings.Repeat("0", digits-len(p)) + p
	}
	if n < 0 {
		s = "-" + s
	}
	return s
}

func TestP1_1Format(t *testing.T) {
	for _, c := range []struct {
		n, digits int
		s         string
	}{
		{0, 0, "0"}, {0, 1, "0.0"}, {0, 9, "0.000000000"},
		{7, 0, "7"}, {-7, 0, "-7"}, {10, 0, "10"}, {-1234, 2, "-12.34"}, {5, 3, "0.005"}, {-5, 3, "-0.005"},
		{100, 2, "1.00"}, {-100, 2, "-1.00"}, {99, 2, "0.99"}, {-10, 1, "-1.0"}, {1000000000, 9, "1.000000000"},
		{limit, 0, "1152921504606846976"}, {-limit, 0, "-1152921504606846976"},
		{limit, 9, "1152921504.606846976"}, {-limit, 9, "-1152921504.606846976"}, {-limit, 1, "-115292150460684697.6"},
	} {
		if s, e := Format(c.n, c.digits); s != c.s || e != api.OK {
			t.Errorf("Format(%d, %d) = %q, %d; want %q", c.n, c.digits, s, e, c.s)
		}
	}
	for digits := 0; digits <= 9; digits++ {
		for _, n := range numbers() {
			if s, e := Format(n, digits); s != expected(n, digits) || e != api.OK {
				t.Errorf("Format(%d, %d) = %q, %d; want %q", n, digits, s, e, expected(n, digits))
			}
		}
	}
}

func TestP1_1FormatErrors(t *testing.T) {
	for _, digits := range []int{-1, 10, 11, 64, math.MaxInt, math.MinInt} {
		for _, n := range append([]int{0, 7, -7, limit}, strangers...) {
			if s, e := Format(n, digits); s != "" || e != api.ErrRange {
				t.Errorf("Format(%d, %d) = %q, %d; want ErrRange", n, digits, s, e)
			}
		}
	}
	for digits := 0; digits <= 9; digits++ {
		for _, n := range strangers {
			if s, e := Format(n, digits); s != "" || e != api.ErrBig {
				t.Errorf("Format(%d, %d) = %q, %d; want ErrBig", n, digits, s, e)
			}
		}
	}
}

func TestP1_2Parse(t *testing.T) {
	for _, c := range []struct {
		s         string
		digits, n int
	}{
		{"0", 0, 0}, {"-0", 0, 0}, {"0", 9, 0}, {"-0.0", 1, 0}, {"0.000", 3, 0},
		{"7", 0, 7}, {"-7", 0, -7}, {"10", 0, 10}, {"12.3", 2, 1230}, {"-12.3", 2, -1230}, {"12.30", 2, 1230}, {"12.03", 2, 1203},
		{"7", 3, 7000}, {"0.5", 1, 5}, {"-0.05", 2, -5}, {"0.001", 3, 1}, {"0.1", 9, 100000000}, {"0.000000001", 9, 1},
		{"1152921504606846976", 0, limit}, {"-1152921504606846976", 0, -limit}, {"1152921504606846975", 0, limit - 1},
		{"115292150460684697.6", 1, limit}, {"-1152921504.606846976", 9, -limit}, {"1152921504.606", 9, limit - 846976},
	} {
		if n, e := Parse(c.s, c.digits); n != c.n || e != api.OK {
			t.Errorf("Parse(%q, %d) = %d, %d; want %d", c.s, c.digits, n, e, c.n)
		}
	}
}

func TestP1_2ParseForm(t *testing.T) {
	for _, s := range []string{
		"", "-", ".", "-.", "+1", "--1", "-+1", "1-", " 1", "1 ", "1\n", "- 1", "a", "1a", "0x1", "1e3", "1_000", "1,5",
		"00", "01", "007", "-01", "-00", "00.1", "01.5", "1.", "-1.", ".5", "-.5", "1..5", "1.2.3", "1.-5", "1.+5", "1. 5", "1.5 ", "1.5a",
		"1.2345", "0.0000", "\x001", "1\x00", "\xff", "\u0661", "1.\u0661", "\u2212" + "1",
	} {
		if n, e := Parse(s, 3); n != 0 || e != api.ErrForm {
			t.Errorf("Parse(%q, 3) = %d, %d; want ErrForm", s, n, e)
		}
	}
	for _, s := range []string{"1.", "1.0", "1.5", "0.0"} {
		if n, e := Parse(s, 0); n != 0 || e != api.ErrForm {
			t.Errorf("Parse(%q, 0) = %d, %d; want ErrForm", s, n, e)
		}
	}
	for digits := 0; digits <= 8; digits++ {
		s := "1." + strings.Repeat("0", digits+1)
		if n, e := Parse(s, digits); n != 0 || e != api.ErrForm {
			t.Errorf("Parse(%q, %d) = %d, %d; want ErrForm", s, digits, n, e)
		}
	}
}

func TestP1_2ParseBig(t *testing.T) {
	for _, c := range []struct {
		s      string
		digits int
	}{
		{"1152921504606846977", 0}, {"-1152921504606846977", 0}, {"1152921504606846980", 0}, {"1152921504606846976", 1}, {"115292150460684697.7", 1},
		{"1152921504.606846977", 9}, {"-1152921504.607", 9}, {"1152921505", 9},
		{"9223372036854775807", 0}, {"9223372036854775808", 0}, {"-9223372036854775808", 0}, {"18446744073709551616", 0}, {"18446744073709551617", 0}, {"184467440737095516170", 0},
		{strings.Repeat("9", 5000), 0}, {strings.Repeat("9", 5000), 9}, {"1" + strings.Repeat("0", 64), 3},
	} {
		if n, e := Parse(c.s, c.digits); n != 0 || e != api.ErrBig {
			t.Errorf("Parse(%q, %d) = %d, %d; want ErrBig", c.s, c.digits, n, e)
		}
	}
}

func TestP1_2ParseFirstError(t *testing.T) {
	for _, digits := range []int{-1, 10, math.MaxInt, math.MinInt} {
		for _, s := range []string{"1", "", "x", "1.5", strings.Repeat("9", 40)} {
			if n, e := Parse(s, digits); n != 0 || e != api.ErrRange {
				t.Errorf("Parse(%q, %d) = %d, %d; want ErrRange", s, digits, n, e)
			}
		}
	}
	for _, s := range []string{strings.Repeat("9", 40) + "x", strings.Repeat("9", 40) + ".1234", "0" + strings.Repeat("9", 40)} {
		if n, e := Parse(s, 3); n != 0 || e != api.ErrForm {
			t.Errorf("Parse(%q, 3) = %d, %d; want ErrForm", s, n, e)
		}
	}
}

// words calls do with all strings of at most size bytes of an alphabet.
func words(alphabet string, size int, do func(string)) {
	var grow func(s string)
	grow = func(s string) {
		do(s)
		if len(s) < size {
			for i := range len(alphabet) {
				grow(s + alphabet[i:i+1])
			}
		}
	}
	grow("")
}

// meant reads a string by the definition of P1.2, with packages regexp and math/big.
func meant(form *regexp.Regexp, s string, digits int) (int, api.Errno) {
	m := form.FindStringSubmatch(s)
	if m == nil || len(m[3]) > digits {
		return 0, api.ErrForm
	}
	n, _ := new(big.Int).SetString(m[1]+m[2]+m[3]+strings.Repeat("0", digits-len(m[3])), 10)
	if n.CmpAbs(big.NewInt(limit)) > 0 {
		return 0, api.ErrBig
	}
	return int(n.Int64()), api.OK
}

func TestP1_2ParseAllShort(t *testing.T) {
	form := regexp.MustCompile(`^(-?)(0|[1-9][0-9]*)(?:\.([0-9]+))?$`)
	words("-.017 ", 6, func(s string) {
		for digits := 0; digits <= 3; digits++ {
			want, wantErr := meant(form, s, digits)
			if n, e := Parse(s, digits); n != want || e != wantErr {
				t.Errorf("Parse(%q, %d) = %d, %d; want %d, %d", s, digits, n, e, want, wantErr)
			}
		}
	})
}

func units() []int {
	return []int{1, 2, 3, 4, 5, 7, 10, 99, 100, 1000, 1 << 20, 1<<39 + 1, 1<<40 - 1, 1 << 40}
}

func TestP1_3Round(t *testing.T) {
	for _, c := range []struct{ n, unit, m int }{
		{0, 10, 0}, {4, 10, 0}, {5, 10, 1}, {14, 10, 1}, {15, 10, 2}, {16, 10, 2}, {20, 10, 2},
		{-4, 10, 0}, {-5, 10, 0}, {-6, 10, -1}, {-14, 10, -1}, {-15, 10, -1}, {-16, 10, -2}, {-20, 10, -2},
		{1, 3, 0}, {2, 3, 1}, {-1, 3, 0}, {-2, 3, -1}, {1, 2, 1}, {-1, 2, 0}, {-3, 2, -1},
		{7, 1, 7}, {-7, 1, -7}, {limit, 1, limit}, {-limit, 1, -limit}, {limit, 1 << 40, 1 << 20}, {-limit, 1 << 40, -1 << 20},
		{1 << 39, 1 << 40, 1}, {1<<39 - 1, 1 << 40, 0}, {-1 << 39, 1 << 40, 0}, {-1<<39 - 1, 1 << 40, -1},
	} {
		if m, e := Round(c.n, c.unit); m != c.m || e != api.OK {
			t.Errorf("Round(%d, %d) = %d, %d; want %d", c.n, c.unit, m, e, c.m)
		}
	}
	for _, unit := range units() {
		for _, n := range numbers() {
			m, e := Round(n, unit)
			if d := 2 * (n - m*unit); e != api.OK || d < -unit || d >= unit {
				t.Errorf("Round(%d, %d) = %d, %d", n, unit, m, e)
			}
		}
	}
}

func TestP1_3RoundErrors(t *testing.T) {
	for _, unit := range []int{0, -1, -10, 1<<40 + 1, limit, math.MaxInt, math.MinInt} {
		for _, n := range append([]int{0, 7, -7, limit}, strangers...) {
			if m, e := Round(n, unit); m != 0 || e != api.ErrRange {
				t.Errorf("Round(%d, %d) = %d, %d; want ErrRange", n, unit, m, e)
			}
		}
	}
	for _, unit := range units() {
		for _, n := range strangers {
			if m, e := Round(n, unit); m != 0 || e != api.ErrBig {
				t.Errorf("Round(%d, %d) = %d, %d; want ErrBig", n, unit, m, e)
			}
		}
	}
}

func TestP1_6TextsAreReadBack(t *testing.T) {
	for digits := 0; digits <= 9; digits++ {
		for _, n := range numbers() {
			s, _ := Format(n, digits)
			if back, e := Parse(s, digits); back != n || e != api.OK {
				t.Errorf("Parse(%q, %d) = %d, %d; want %d", s, digits, back, e, n)
			}
		}
	}
}

func TestP1_6RoundingKeepsOrder(t *testing.T) {
	for _, unit := range units() {
		last := math.MinInt
		for _, n := range numbers() {
			m, e := Round(n, unit)
			if e != api.OK || m < last {
				t.Errorf("Round(%d, %d) = %d, %d after %d", n, unit, m, e, last)
			}
			if moved := n - m*unit; 2*max(moved, -moved) > unit {
				t.Errorf("Round(%d, %d) moves by %d", n, unit, moved)
			}
			last = m
		}
	}
}
