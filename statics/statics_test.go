package statics

import (
	"math"
	"math/big"
	"slices"
	"testing"

	"loftblock/api"
)

func TestP11_1Examples(t *testing.T) {
	for _, c := range []struct {
		text string
		want []api.Frac
	}{
		{bight, wholes(30)},
		{own, wholes(20)},
		// r + 3 q = 300, and -2 r + 2 q = 45
		{twoRopes, []api.Frac{frac(465, 8), frac(645, 8)}},
		{"block b 7\nrope r fixed - 0 1 b 2 1 b 1 1\n", []api.Frac{frac(7, 3)}},
		{"block b 7\nrope r hauled b -1 1 - 0 1\n", wholes(-7)},
		{"block b 0\nrope r hauled b -1 1 - 0 1\n", wholes(0)},
		{"block b 16777216\nrope r hauled b 1 1 b 2 100 b 2 11/10 - 0 1\n", []api.Frac{frac(1<<24, 5)}},
		{"block b 10\nblock c 20\nrope r fixed b 1 1 c 2 1 b 0 1 - 0 1\n", wholes(10)},
	} {
		if l, err := Tensions(parsed(c.text)); err != api.OK || !slices.Equal(l, c.want) {
			t.Errorf("Tensions(%q) = %v, %d; want %v", c.text, l, err, c.want)
		}
	}
}

func TestP11_1NoTensions(t *testing.T) {
	for _, c := range []struct {
		text string
		want api.Errno
	}{
		// a rope that pulls nothing, or twice as much as another one, or with it
		{"block b 0\nrope r hauled - 0 1 b 0 1 - 0 1\n", api.ErrFree},
		{"block b 1\nrope r hauled - 0 1 b 0 1 - 0 1\n", api.ErrGap},
		{"block b 1\nrope r fixed b 1 1 b -1 1\n", api.ErrGap},
		{"block b 3\nrope r fixed - 0 1 b 1 1\nrope q hauled - 0 1 b 2 1 - 0 1\n", api.ErrFree},
		{freeGap, api.ErrGap},
		{"block b 10\nblock c 21\nrope r fixed b 1 1 c 2 1 b 0 1 - 0 1\n", api.ErrGap},
		{"block b 0\nblock c 0\nrope r fixed b 1 1 - 0 1\nrope q fixed b 1 1 - 0 1\n", api.ErrFree},
		{"block b 0\nblock c 1\nrope r fixed b 1 1 - 0 1\n", api.ErrGap},
	} {
		s := parsed(c.text)
		if l, err := Tensions(s); l != nil || err != c.want {
			t.Errorf("Tensions(%q) = %v, %d; want %d", c.text, l, err, c.want)
		}
		if x, err := Haul(s); x != (api.Frac{}) || err != c.want {
			t.Errorf("Haul(%q) = %v, %d; want %d", c.text, x, err, c.want)
		}
	}
}

// isOnly checks that Tensions returns the only tensions of a system, or how many there are, and counts what it returned.
func isOnly(t *testing.T, s api.System, met map[api.Errno]int) {
	t.Helper()
	l, err := Tensions(s)
	met[err]++
	if want := verdict(s); err != want {
		t.Errorf("Tensions(%v) = %v, %d; want %d", s, l, err, want)
		return
	}
	if err != api.OK {
		if l != nil {
			t.Errorf("Tensions(%v) = %v, %d", s, l, err)
		}
		return
	}
	isLeft := func(r *big.Rat) bool { return r.Sign() != 0 }
	if len(l) != len(s.Ropes) {
		t.Errorf("Tensions(%v) = %v", s, l)
	} else if residuals, _ := residualsOf(s, l); slices.ContainsFunc(residuals, isLeft) {
		t.Errorf("Tensions(%v) = %v, with the residuals %v", s, l, residuals)
	}
}

func TestP11_1TensionsOfAll(t *testing.T) {
	for _, all := range [][]api.System{small(), systems()} {
		met := map[api.Errno]int{}
		for _, s := range all {
			before := copied(s)
			isOnly(t, s, met)
			isSystem(t, "Tensions", s, before)
		}
		if met[api.OK] < 100 || met[api.ErrGap] < 100 || met[api.ErrFree] < 100 || len(met) != 3 {
			t.Errorf("Tensions returned errors as often as %v", met)
		}
	}
}

func TestP11_1Haul(t *testing.T) {
	met := map[api.Errno]int{}
	for _, s := range systems() {
		before := copied(s)
		tensions, want := Tensions(s)
		hauled := slices.IndexFunc(s.Ropes, func(r api.Rope) bool { return r.Hauled })
		tension := api.Frac{}
		if want == api.OK && hauled < 0 {
			want = api.ErrNone
		} else if want == api.OK {
			tension = tensions[hauled]
		}
		x, err := Haul(s)
		met[err]++
		if x != tension || err != want {
			t.Errorf("Haul(%v) = %v, %d; want %v, %d", s, x, err, tension, want)
		}
		isSystem(t, "Haul", s, before)
	}
	if len(met) != 4 {
		t.Errorf("Haul returned errors as often as %v", met)
	}
}

func TestP11_1HaulOfExamples(t *testing.T) {
	for text, want := range map[string]api.Frac{bight: frac(30, 1), twoRopes: frac(645, 8)} {
		if x, err := Haul(parsed(text)); x != want || err != api.OK {
			t.Errorf("Haul(%q) = %v, %d; want %v", text, x, err, want)
		}
	}
	if x, err := Haul(parsed(own)); x != (api.Frac{}) || err != api.ErrNone {
		t.Errorf("Haul of a system without a hauled rope = %v, %d", x, err)
	}
	// Errors of the tensions come first.
	for text, want := range map[string]api.Errno{
		"block b 1\nrope r fixed - 0 1 - 0 1\n": api.ErrGap,
		"block b 0\nrope r fixed - 0 1 - 0 1\n": api.ErrFree,
	} {
		if x, err := Haul(parsed(text)); x != (api.Frac{}) || err != want {
			t.Errorf("Haul(%q) = %v, %d; want %d", text, x, err, want)
		}
	}
}

func TestP11WrongSystems(t *testing.T) {
	for name, s := range wrong() {
		if l, err := Tensions(s); l != nil || err != api.ErrArg {
			t.Errorf("%s: Tensions = %v, %d", name, l, err)
		}
		if x, err := Haul(s); x != (api.Frac{}) || err != api.ErrArg {
			t.Errorf("%s: Haul = %v, %d", name, x, err)
		}
		for _, l := range [][]api.Frac{nil, wholes(1), wholes(1, 2), wholes(top, top), {frac(2, 2), frac(0, 1)}} {
			isError(t, s, l, api.ErrArg)
		}
	}
}

// isError checks that the functions of tensions return an error, and zero values beside it.
func isError(t *testing.T, s api.System, l []api.Frac, want api.Errno) {
	t.Helper()
	if r, err := Residuals(s, l); r != nil || err != want {
		t.Errorf("Residuals(%v, %v) = %v, %d; want %d", s, l, r, err, want)
	}
	if is, err := Check(s, l); is || err != want {
		t.Errorf("Check(%v, %v) = %v, %d; want %d", s, l, is, err, want)
	}
	if x, err := Total(s, l); x != (api.Frac{}) || err != want {
		t.Errorf("Total(%v, %v) = %v, %d; want %d", s, l, x, err, want)
	}
}

func TestP11_2WrongTensions(t *testing.T) {
	s := parsed(twoRopes)
	for _, a := range []api.Frac{{}, frac(2, 2), frac(0, 2), frac(1, 0), frac(1, -1), frac(-1, -1), frac(top+1, 1), frac(-top-1, 1), frac(1, top+1),
		frac(math.MinInt, 1), frac(1, math.MinInt), frac(math.MaxInt, math.MaxInt)} {
		isError(t, s, []api.Frac{a, frac(1, 1)}, api.ErrArg)
		isError(t, s, []api.Frac{frac(1, 1), a}, api.ErrArg)
		// A fraction that is not valid comes before a wrong length, and before what does not fit.
		isError(t, s, []api.Frac{a}, api.ErrArg)
		isError(t, s, []api.Frac{frac(1, 1), frac(1, 1), a}, api.ErrArg)
		isError(t, s, append(wholes(make([]int, api.MaxList)...), a), api.ErrArg)
		isError(t, s, []api.Frac{frac(top, 1), a}, api.ErrArg)
	}
	for _, l := range [][]api.Frac{nil, {}, wholes(1), wholes(top), wholes(1, 2, 3), wholes(top, top, top), wholes(make([]int, 5000)...)} {
		isError(t, s, l, api.ErrSize)
	}
}

// isRight checks the residuals and the total of tensions, and counts their errors.
func isRight(t *testing.T, s api.System, l []api.Frac, met map[[2]api.Errno]int) {
	t.Helper()
	residuals, fit := residualsOf(s, l)
	is := !slices.ContainsFunc(residuals, func(r *big.Rat) bool { return r.Sign() != 0 })
	want := api.OK
	if !fit {
		residuals, is, want = nil, false, api.ErrBig
	}
	if r, err := Residuals(s, l); !isList(r, residuals) || err != want {
		t.Errorf("Residuals(%v, %v) = %v, %d; want %v, %d", s, l, r, err, residuals, want)
	}
	if got, err := Check(s, l); got != is || err != want {
		t.Errorf("Check(%v, %v) = %v, %d; want %v, %d", s, l, got, err, is, want)
	}
	total, fit := totalOf(s, l)
	x, err := Total(s, l)
	met[[2]api.Errno{want, err}]++
	switch {
	case fit && (!isList([]api.Frac{x}, []*big.Rat{total}) || err != api.OK):
		t.Errorf("Total(%v, %v) = %v, %d; want %v", s, l, x, err, total)
	case !fit && (x != (api.Frac{}) || err != api.ErrBig):
		t.Errorf("Total(%v, %v) = %v, %d; want %d", s, l, x, err, api.ErrBig)
	}
}

// reduced returns a fraction in lowest terms.
func reduced(num, den int) api.Frac {
	r := big.NewRat(int64(num), int64(den))
	return frac(int(r.Num().Int64()), int(r.Denom().Int64()))
}

// lists returns lists of tensions of some length, small ones, and ones that are too big together sometimes.
func lists(next func(low, high int) int, length int) [][]api.Frac {
	all := make([][]api.Frac, 6)
	for range length {
		all[0] = append(all[0], frac(next(-9, 9), 1))
		all[1] = append(all[1], reduced(next(-99, 99), next(1, 12)))
		all[2] = append(all[2], reduced(next(-top/16, top/16), next(1, 2)))
		all[3] = append(all[3], reduced(next(-99, 99), next(1<<13, 1<<15)))
		all[4] = append(all[4], reduced(next(-99, 99), 1<<next(0, 60)))
		all[5] = append(all[5], frac((2*next(0, 1)-1)*top>>(next(0, 2)*next(0, 60)), 1))
	}
	return all
}

func TestP11_2OfAll(t *testing.T) {
	met := map[[2]api.Errno]int{}
	next := numbers()
	for _, s := range systems() {
		before := copied(s)
		for _, l := range lists(next, len(s.Ropes)) {
			given := slices.Clone(l)
			isRight(t, s, l, met)
			if !slices.Equal(l, given) {
				t.Errorf("the tensions %v have become %v", given, l)
			}
		}
		isSystem(t, "Residuals, Check, or Total,", s, before)
	}
	for _, both := range [][2]api.Errno{{api.OK, api.OK}, {api.ErrBig, api.OK}, {api.OK, api.ErrBig}, {api.ErrBig, api.ErrBig}} {
		if met[both] < 10 {
			t.Errorf("the errors of Residuals and Total were %v only %d times", both, met[both])
		}
	}
}

func TestP11_2CheckOfEquilibria(t *testing.T) {
	met := map[[2]api.Errno]int{}
	for _, s := range small() {
		l, err := Tensions(s)
		if err != api.OK {
			continue
		}
		isRight(t, s, l, met)
		for i := range l {
			other := slices.Clone(l)
			other[i] = reduced(l[i].Num+1, l[i].Den)
			isRight(t, s, other, met)
		}
	}
}

func TestP11_2Limits(t *testing.T) {
	const light, heavy = "block b 0\n", "block b 1\n"
	const ropes = "rope r fixed - 0 1 b 1 1\nrope q fixed - 0 1 b 1 1\nrope p fixed - 0 1 b 1 1\n"
	const up, down, end = "rope r fixed - 0 1 b 2 1 - 0 1\n", "rope r fixed - 0 1 b -2 1 - 0 1\n", "rope r fixed - 0 1 b -1 1\n"
	const none, opposite = "rope r fixed - 0 1 b 0 1 - 0 1\n", "block c 0\nrope r fixed - 0 1 b 2 1 c -2 1 - 0 1\n"
	const both = "block c 0\nrope r fixed b 1 1 c 1 1\n"
	for _, c := range []struct {
		text              string
		l                 []api.Frac
		residuals, totals api.Errno
	}{
		// products
		{light + up, wholes(top / 2), api.OK, api.OK},
		{light + up, wholes(-top / 2), api.OK, api.OK},
		{light + up, wholes(top/2 + 1), api.ErrBig, api.ErrBig},
		{light + up, []api.Frac{frac(1, top)}, api.OK, api.OK},
		{light + none, wholes(top), api.OK, api.OK},
		// the pulls of a rope at two blocks
		{light + opposite, wholes(top), api.ErrBig, api.OK},
		{light + both, wholes(top), api.OK, api.ErrBig},
		{light + both, wholes(top / 2), api.OK, api.OK},
		// sums on the way
		{light + ropes, wholes(top, 1, -1), api.ErrBig, api.ErrBig},
		{light + ropes, wholes(top, -1, 1), api.OK, api.OK},
		{light + ropes, wholes(1, -1, top), api.OK, api.OK},
		{light + ropes, wholes(-top, -1, 1), api.ErrBig, api.ErrBig},
		{light + ropes, []api.Frac{frac(1, top), frac(1, top-1), frac(-1, top-1)}, api.ErrBig, api.ErrBig},
		{light + ropes, []api.Frac{frac(1, top-1), frac(-1, top-1), frac(1, top)}, api.OK, api.OK},
		// the weight less a sum that fits
		{light + down, wholes(top / 2), api.OK, api.OK},
		{heavy + down, wholes(top / 2), api.ErrBig, api.OK},
		{heavy + up, wholes(top / 2), api.OK, api.OK},
		{heavy + up, []api.Frac{frac(1, top)}, api.OK, api.OK},
		{heavy + down, []api.Frac{frac(1, top)}, api.OK, api.OK},
		{heavy + end, []api.Frac{frac(1, top)}, api.ErrBig, api.OK},
		{heavy + end, []api.Frac{frac(-1, top)}, api.OK, api.OK},
	} {
		s := parsed(c.text)
		r, err := Residuals(s, c.l)
		_, same := Check(s, c.l)
		if err != c.residuals || same != c.residuals {
			t.Errorf("of %q, %v: Residuals = %v, %d; Check has %d; want %d", c.text, c.l, r, err, same, c.residuals)
		}
		if x, err := Total(s, c.l); err != c.totals {
			t.Errorf("Total(%q, %v) = %v, %d; want %d", c.text, c.l, x, err, c.totals)
		}
		isRight(t, s, c.l, map[[2]api.Errno]int{})
	}
}

func TestP11ResultsShareNothing(t *testing.T) {
	s := parsed(twoRopes)
	l := wholes(3, 4)
	tensions, _ := Tensions(s)
	residuals, _ := Residuals(s, l)
	tensions[0], residuals[0] = frac(9, 1), frac(9, 1)
	isSystem(t, "a change of a result", s, parsed(twoRopes))
	again, _ := Tensions(s)
	left, _ := Residuals(s, l)
	if !slices.Equal(l, wholes(3, 4)) || again[0] != frac(465, 8) || left[0] != frac(285, 1) {
		t.Errorf("results share memory: %v, %v, %v", l, again, left)
	}
}
