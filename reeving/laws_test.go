package reeving

import (
	"slices"
	"testing"

	"loftblock/api"
	"loftblock/linear"
)

// matrixOf returns the matrix of a system that is valid.
func matrixOf(t *testing.T, s api.System) api.Matrix {
	t.Helper()
	m, err := Matrix(s)
	if err != api.OK {
		t.Fatalf("Matrix(%v) = %v, %d", s, m, err)
	}
	return m
}

func TestP10_4GreatestPulls(t *testing.T) {
	for _, s := range systems() {
		m := matrixOf(t, s)
		if !linear.Valid(m) {
			t.Errorf("the matrix %v of %v is not valid", m, s)
		}
		for _, row := range m {
			for column, pull := range row {
				sheaves := len(s.Ropes[column].Holds) - 2
				if most := 2*sheaves + 2; pull > most || pull < -most {
					t.Errorf("Matrix(%v) = %v has the pull %d", s, m, pull)
				}
			}
		}
	}
}

func TestP10_4OtherWay(t *testing.T) {
	for _, s := range systems() {
		back := copied(s)
		for i := range back.Ropes {
			back.Ropes[i].Hauled = false
			slices.Reverse(back.Ropes[i].Holds)
		}
		if m, n := matrixOf(t, s), matrixOf(t, back); !isRows(m, n...) {
			t.Errorf("%v has the matrix %v, but with ropes the other way %v", s, m, n)
		}
	}
}

func TestP10_4OtherOrder(t *testing.T) {
	for _, s := range systems() {
		other := copied(s)
		slices.Reverse(other.Blocks)
		other.Ropes = append(other.Ropes[1:], other.Ropes[0])
		m, n := matrixOf(t, s), matrixOf(t, other)
		for row := range m {
			for column := range m[row] {
				if m[row][column] != n[len(n)-1-row][(column+len(s.Ropes)-1)%len(s.Ropes)] {
					t.Errorf("%v has the matrix %v, but in another order %v", s, m, n)
				}
			}
		}
	}
}

func TestP10_4SheavesAtTheBuilding(t *testing.T) {
	for _, s := range systems() {
		for i, r := range s.Ropes {
			for place := 1; place < len(r.Holds) && len(r.Holds) < api.MaxHolds; place++ {
				longer := copied(s)
				longer.Ropes[i].Holds = slices.Insert(longer.Ropes[i].Holds, place, api.Hold{Loss: frac(21, 20)})
				if m, n := matrixOf(t, s), matrixOf(t, longer); !isRows(m, n...) {
					t.Errorf("%v has the matrix %v, but with a further sheave %v", s, m, n)
				}
			}
		}
	}
}

func TestP10_4TextsAreReadBack(t *testing.T) {
	for _, s := range systems() {
		text, err := Text(s)
		if err != api.OK {
			t.Errorf("Text(%v) = %q, %d", s, text, err)
		}
		back, at, err := Parse(text)
		again, _ := Text(back)
		if err != api.OK || at != (api.Pos{}) || !Same(back, s) || again != text {
			t.Errorf("Parse(%q) = %v, %v, %d; want %v", text, back, at, err, s)
		}
	}
}
