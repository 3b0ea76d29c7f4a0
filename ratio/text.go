package ratio

import (
	"strconv"
	"strings"

	"loftblock/api"
)

// Text returns the text of a fraction.
func Text(a api.Frac) (string, api.Errno) {
	if !Valid(a) {
		return "", api.ErrArg
	}
	if a.Den == 1 {
		return strconv.Itoa(a.Num), api.OK
	}
	return strconv.Itoa(a.Num) + "/" + strconv.Itoa(a.Den), api.OK
}

// Parse returns the fraction with the text s.
func Parse(s string) (api.Frac, api.Errno) {
	top, bottom, divided := strings.Cut(s, "/")
	if !divided {
		bottom = "1"
	}
	num, numErr := strconv.Atoi(top)
	den, denErr := strconv.Atoi(bottom)
	if numErr != nil || denErr != nil {
		return api.Frac{}, api.ErrForm
	}
	// Atoi also reads plus signs and superfluous zeros, so the text is made again and compared.
	a := api.Frac{Num: num, Den: den}
	if text, err := Text(a); err != api.OK || text != s {
		return api.Frac{}, api.ErrForm
	}
	return a, api.OK
}
