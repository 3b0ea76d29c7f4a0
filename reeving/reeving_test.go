package reeving

import (
	"math"
	"slices"
	"testing"

	"loftblock/api"
)

func TestP10_1Valid(t *testing.T) {
	for _, s := range systems() {
		before := copied(s)
		if !Valid(s) {
			t.Errorf("Valid(%v) = false", s)
		}
		isSystem(t, "Valid", s, before)
	}
	for name, s := range wrong() {
		if Valid(s) {
			t.Errorf("%s: Valid(%v) = true", name, s)
		}
	}
}

// allowed reports whether a hold is valid in a system with the block b, by the words of the document.
func allowed(h api.Hold, end bool) bool {
	switch h.Block {
	case "":
		if h.Pulls != 0 {
			return false
		}
	case "b":
		if end && h.Pulls != 1 && h.Pulls != -1 || !end && h.Pulls != 2 && h.Pulls != 0 && h.Pulls != -2 {
			return false
		}
	default:
		return false
	}
	if end {
		return h.Loss == frac(1, 1)
	}
	return slices.Contains(losses, h.Loss)
}

func TestP10_1ValidOfAllHolds(t *testing.T) {
	others := []api.Frac{{}, frac(0, 1), frac(1, 0), frac(-1, 1), frac(-1, -1), frac(2, 2), frac(9, 10), frac(99, 100), frac(101, 100), frac(101, 1),
		frac(14, 6), frac(200, 100), frac(101, 101), frac(math.MaxInt, 1), frac(math.MaxInt, math.MaxInt), frac(math.MinInt, math.MinInt), frac(1, math.MinInt)}
	pulls := append(outside(-3, 3), -3, -2, -1, 0, 1, 2, 3)
	for _, block := range []string{"", "b", "r", "c", "B", "-"} {
		for _, n := range pulls {
			for _, loss := range slices.Concat(losses, others) {
				h := api.Hold{Block: block, Pulls: n, Loss: loss}
				for place := range 3 {
					s := api.System{Blocks: []api.Block{{Name: "b"}}, Ropes: []api.Rope{{Name: "r", Holds: []api.Hold{fixed(), hold("b", 2), hold("b", 1)}}}}
					s.Ropes[0].Holds[place] = h
					if got, want := Valid(s), allowed(h, place != 1); got != want {
						t.Errorf("Valid = %v with the hold %v at %d", got, h, place)
					}
				}
			}
		}
	}
}

func TestP10_1ValidLimits(t *testing.T) {
	s := two()
	for _, n := range []int{0, 1, 1 << 24} {
		s.Blocks[0].Weight = n
		if !Valid(s) {
			t.Errorf("the weight %d is not valid", n)
		}
	}
	s.Blocks[0].Name, s.Ropes[1].Holds[3].Block = "block", "block"
	s.Ropes[0].Holds[0].Block, s.Ropes[0].Holds[2].Block = "block", "block"
	s.Ropes[1].Name = "rope"
	if !Valid(s) {
		t.Errorf("words of texts are no names")
	}
	s = two()
	s.Ropes[1].Holds = []api.Hold{fixed(), fixed()}
	if !Valid(s) {
		t.Errorf("a rope with two holds is not valid")
	}
	s.Ropes[0].Hauled = false
	if !Valid(s) {
		t.Errorf("a system without a hauled rope is not valid")
	}
	s.Ropes[1].Hauled = true
	if !Valid(s) {
		t.Errorf("the second rope may not be hauled")
	}
}

func TestP10_1Same(t *testing.T) {
	for i, a := range systems() {
		for j, b := range systems() {
			if got := Same(a, b); got != (i == j) {
				t.Errorf("Same(%v, %v) = %v", a, b, got)
			}
		}
	}
	for i, change := range []func(s *api.System){
		func(s *api.System) { s.Blocks[1].Name = "d" },
		func(s *api.System) { s.Blocks[0].Weight++ },
		func(s *api.System) { s.Blocks = s.Blocks[:1] },
		func(s *api.System) { s.Blocks = append(s.Blocks, api.Block{}) },
		func(s *api.System) { s.Ropes[1].Name = "d" },
		func(s *api.System) { s.Ropes[0].Hauled = false },
		func(s *api.System) { s.Ropes = s.Ropes[:1] },
		func(s *api.System) { s.Ropes = append(s.Ropes, api.Rope{}) },
		func(s *api.System) { s.Ropes[1].Holds[3].Block = "c" },
		func(s *api.System) { s.Ropes[1].Holds[2].Pulls = 2 },
		func(s *api.System) { s.Ropes[0].Holds[1].Loss = frac(21, 19) },
		func(s *api.System) { s.Ropes[0].Holds[1].Loss = frac(22, 20) },
		func(s *api.System) { s.Ropes[1].Holds = s.Ropes[1].Holds[:3] },
		func(s *api.System) { slices.Reverse(s.Ropes) },
		func(s *api.System) { slices.Reverse(s.Blocks) },
	} {
		s := two()
		change(&s)
		if Same(s, two()) || Same(two(), s) {
			t.Errorf("%d: Same(%v, %v) = true", i, s, two())
		}
		if !Same(s, copied(s)) {
			t.Errorf("%d: %v is not the same as its copy", i, s)
		}
	}
}

func TestP10_1SameOfEmptyLists(t *testing.T) {
	if !Same(api.System{}, api.System{Blocks: []api.Block{}, Ropes: []api.Rope{}}) {
		t.Errorf("an empty list is not the same as none")
	}
	a := api.System{Ropes: []api.Rope{{Name: "r"}}}
	b := api.System{Ropes: []api.Rope{{Name: "r", Holds: []api.Hold{}}}}
	if !Same(a, b) || Same(a, api.System{}) {
		t.Errorf("empty lists of holds are compared wrongly")
	}
}

// isRows reports whether a matrix has some rows.
func isRows(m api.Matrix, rows ...[]int) bool {
	return slices.EqualFunc(m, rows, slices.Equal)
}

func TestP10_2Matrix(t *testing.T) {
	if m, err := Matrix(example()); err != api.OK || !isRows(m, []int{4}) {
		t.Errorf("Matrix of the example = %v, %d", m, err)
	}
	if m, err := Matrix(two()); err != api.OK || !isRows(m, []int{3, -1}, []int{0, -2}) {
		t.Errorf("Matrix of two = %v, %d", m, err)
	}
	if m, err := Matrix(full()); err != api.OK || m[0][0] != 18 || m[5][5] != 18 || m[0][1] != 0 {
		t.Errorf("Matrix of full = %v, %d", m, err)
	}
}

func TestP10_2OfAll(t *testing.T) {
	for _, s := range systems() {
		before := copied(s)
		m, err := Matrix(s)
		if err != api.OK || len(m) != len(s.Blocks) {
			t.Errorf("Matrix(%v) = %v, %d", s, m, err)
			continue
		}
		for row, b := range s.Blocks {
			parts := 0
			for column, r := range s.Ropes {
				pull := 0
				for _, h := range r.Holds {
					if h.Block == b.Name {
						pull += h.Pulls
					}
				}
				parts += pull
				if len(m[row]) != len(s.Ropes) || m[row][column] != pull {
					t.Errorf("Matrix(%v) = %v, but %s pulls %s by %d", s, m, r.Name, b.Name, pull)
				}
			}
			if n, err := Parts(s, b.Name); err != api.OK || n != parts {
				t.Errorf("Parts(%v, %s) = %d, %d; want %d", s, b.Name, n, err, parts)
			}
		}
		isSystem(t, "Matrix, or Parts,", s, before)
	}
}

func TestP10_2WeightsAndHauled(t *testing.T) {
	for _, s := range systems() {
		before := copied(s)
		weights, e := Weights(s)
		hauled, f := Hauled(s)
		if e != api.OK || f != api.OK || len(weights) != len(s.Blocks) || len(hauled) != len(s.Ropes) {
			t.Errorf("of %v: Weights = %v, %d; Hauled = %v, %d", s, weights, e, hauled, f)
			continue
		}
		for i, b := range s.Blocks {
			if weights[i] != b.Weight {
				t.Errorf("Weights(%v) = %v", s, weights)
			}
		}
		for i, r := range s.Ropes {
			if (hauled[i] == 1) != r.Hauled || hauled[i] != 0 && hauled[i] != 1 {
				t.Errorf("Hauled(%v) = %v", s, hauled)
			}
		}
		isSystem(t, "Weights, or Hauled,", s, before)
	}
}

func TestP10_2Parts(t *testing.T) {
	for _, c := range []struct {
		block string
		want  int
		err   api.Errno
	}{{"b", 2, api.OK}, {"c", -2, api.OK}, {"", 0, api.ErrName}, {"r", 0, api.ErrName}, {"q", 0, api.ErrName}, {"B", 0, api.ErrName}, {"b ", 0, api.ErrName}, {"-", 0, api.ErrName}, {"\xff", 0, api.ErrName}} {
		if n, err := Parts(two(), c.block); n != c.want || err != c.err {
			t.Errorf("Parts(%q) = %d, %d; want %d, %d", c.block, n, err, c.want, c.err)
		}
	}
}

func TestP10_2Errors(t *testing.T) {
	for name, s := range wrong() {
		if m, err := Matrix(s); m != nil || err != api.ErrArg {
			t.Errorf("%s: Matrix = %v, %d", name, m, err)
		}
		if l, err := Weights(s); l != nil || err != api.ErrArg {
			t.Errorf("%s: Weights = %v, %d", name, l, err)
		}
		if l, err := Hauled(s); l != nil || err != api.ErrArg {
			t.Errorf("%s: Hauled = %v, %d", name, l, err)
		}
		for _, block := range []string{"b", "", "z"} {
			if n, err := Parts(s, block); n != 0 || err != api.ErrArg {
				t.Errorf("%s: Parts(%q) = %d, %d", name, block, n, err)
			}
		}
	}
}

func TestP10ResultsShareNothing(t *testing.T) {
	s := full()
	m, _ := Matrix(s)
	weights, _ := Weights(s)
	hauled, _ := Hauled(s)
	again, _ := Matrix(s)
	for _, row := range m {
		row[0] = 99
		_ = append(row, 77)
	}
	weights[0], hauled[0] = 99, 99
	isSystem(t, "a change of a result", s, full())
	if m[1][0] != 99 || m[1][1] != 18 || again[0][0] != 18 {
		t.Errorf("rows share memory: %v, %v", m, again)
	}
}
