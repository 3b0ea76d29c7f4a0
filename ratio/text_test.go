package ratio

import (
	"math/big"
	"regexp"
	"strings"
	"testing"

	"loftblock/api"
)

var texts = map[string]api.Frac{
	"0": f(0, 1), "1": f(1, 1), "-1": f(-1, 1), "10": f(10, 1), "-3/2": f(-3, 2), "3/2": f(3, 2), "1/10": f(1, 10), "10/3": f(10, 3),
	"1152921504606846976": f(limit, 1), "-1152921504606846976": f(-limit, 1), "1/1152921504606846976": f(1, limit), "-1152921504606846975/1152921504606846976": f(1-limit, limit),
}

func TestP2_5Text(t *testing.T) {
	for want, a := range texts {
		if s, e := Text(a); s != want || e != api.OK {
			t.Errorf("Text(%v) = %q, %d; want %q", a, s, e, want)
		}
	}
	made, _ := Make(-6, 4)
	if s, e := Text(made); s != "-3/2" || e != api.OK {
		t.Errorf("Text of -6/4, made, is %q, %d", s, e)
	}
	for _, a := range fractions() {
		if s, e := Text(a); s != exact(a).RatString() || e != api.OK {
			t.Errorf("Text(%v) = %q, %d", a, s, e)
		}
	}
	for _, a := range strangers {
		if s, e := Text(a); s != "" || e != api.ErrArg {
			t.Errorf("Text(%v) = %q, %d; want ErrArg", a, s, e)
		}
	}
}

func TestP2_5Parse(t *testing.T) {
	for s, want := range texts {
		if a, e := Parse(s); a != want || e != api.OK {
			t.Errorf("Parse(%q) = %v, %d; want %v", s, a, e, want)
		}
	}
}

func TestP2_5ParseForm(t *testing.T) {
	for _, s := range []string{
		"", "-", "/", "1/", "/2", "-/2", "1//2", "1/2/3", "1/2/", "a", "1a", "1/2a", "1.5", "1,5", "0x1", "1e3", "1_000", "1_0/3", "\x00", "1\x00", "\xff", "\u0661", "\u22121",
		" 1", "1 ", "1 /2", "1/ 2", "1/2\n", "+1", "+1/2", "1/+2", "--1", "1/-2", "-1/-2", "-0", "00", "03", "-03", "03/2", "3/02", "-0/1",
		"0/1", "0/2", "3/1", "2/4", "-6/4", "2/2", "1/0", "0/0", "-1/0",
		"1152921504606846977", "-1152921504606846977", "1/1152921504606846977", "1152921504606846976/1152921504606846976", "9223372036854775807", "-9223372036854775808", "9223372036854775808",
		"18446744073709551615", "18446744073709551616", "18446744073709551617", "1/18446744073709551618", "340282366920938463463374607431768211457", strings.Repeat("9", 5000), "1/" + strings.Repeat("9", 5000), strings.Repeat("0", 5000) + "1", strings.Repeat("/", 5000),
	} {
		if a, e := Parse(s); a != f(0, 0) || e != api.ErrForm {
			t.Errorf("Parse(%q) = %v, %d; want ErrForm", s, a, e)
		}
	}
}

// short returns all strings of at most 5 bytes of an alphabet.
func short(alphabet string) []string {
	list := []string{""}
	for i := 0; i < len(list); i++ {
		for _, c := range alphabet {
			if len(list[i]) < 5 {
				list = append(list, list[i]+string(c))
			}
		}
	}
	return list
}

func TestP2_5ParseAllShort(t *testing.T) {
	form := regexp.MustCompile(`^-?[0-9]+(/[0-9]*[1-9][0-9]*)?$`)
	for _, s := range short("-/0136+_ ") {
		want, wantErr := api.Frac{}, api.ErrForm
		if form.MatchString(s) {
			// A text is that of its own value, or of none.
			if r, ok := new(big.Rat).SetString(s); ok && r.RatString() == s {
				want, wantErr = meant(r)
			}
		}
		if a, e := Parse(s); a != want || e != wantErr {
			t.Errorf("Parse(%q) = %v, %d; want %v, %d", s, a, e, want, wantErr)
		}
	}
}
