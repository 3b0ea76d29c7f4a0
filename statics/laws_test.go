package statics

import (
	"slices"
	"testing"

	"loftblock/api"
	"loftblock/ratio"
)

// held returns the systems that have tensions, with these.
func held(t *testing.T) ([]api.System, [][]api.Frac) {
	t.Helper()
	var list []api.System
	var tensions [][]api.Frac
	for _, s := range append(small(), systems()...) {
		if l, err := Tensions(s); err == api.OK {
			list, tensions = append(list, s), append(tensions, l)
		}
	}
	if len(list) < 1000 {
		t.Fatalf("only %d systems have tensions", len(list))
	}
	return list, tensions
}

func TestP11_3Equilibrium(t *testing.T) {
	list, tensions := held(t)
	for i, s := range list {
		if is, err := Check(s, tensions[i]); !is || err != api.OK {
			t.Errorf("Check(%v, %v) = %v, %d", s, tensions[i], is, err)
		}
		for rope := range s.Ropes {
			for _, step := range []api.Frac{frac(1, 1), frac(-1, 7)} {
				other := slices.Clone(tensions[i])
				other[rope], _ = ratio.Add(other[rope], step)
				if is, err := Check(s, other); is || err != api.OK {
					t.Errorf("%v has the tensions %v, but Check(%v) = %v, %d", s, tensions[i], other, is, err)
				}
			}
		}
	}
}

func TestP11_3TotalIsWeight(t *testing.T) {
	list, tensions := held(t)
	for i, s := range list {
		weight := 0
		for _, b := range s.Blocks {
			weight += b.Weight
		}
		if x, err := Total(s, tensions[i]); x != frac(weight, 1) || err != api.OK {
			t.Errorf("Total(%v, %v) = %v, %d; want %d", s, tensions[i], x, err, weight)
		}
	}
}

func TestP11_3SumsOfWeights(t *testing.T) {
	next := numbers()
	compared := 0
	list, tensions := held(t)
	for i, s := range list {
		other := copied(s)
		// Twice the weights, or none, have tensions, too; others mostly only where there are as many ropes as blocks.
		factor, most := 2*next(0, 1), 0
		if len(s.Blocks) == len(s.Ropes) {
			factor, most = 0, 1<<23
		}
		for j := range other.Blocks {
			other.Blocks[j].Weight = factor*s.Blocks[j].Weight + next(0, most)
		}
		both := copied(s)
		for j, b := range other.Blocks {
			both.Blocks[j].Weight += b.Weight
		}
		more, err := Tensions(other)
		all, e := Tensions(both)
		// The weights may be too great for blocks.
		if err != api.OK || e == api.ErrArg {
			continue
		}
		compared++
		for j := range more {
			more[j], _ = ratio.Add(more[j], tensions[i][j])
		}
		if e != api.OK || !slices.Equal(all, more) {
			t.Errorf("Tensions(%v) = %v, %d; want %v", both, all, e, more)
		}
	}
	if compared < 1000 {
		t.Errorf("only %d sums were compared", compared)
	}
}

func TestP11_3OtherOrder(t *testing.T) {
	for _, s := range append(small(), systems()...) {
		l, want := Tensions(s)
		other := copied(s)
		slices.Reverse(other.Blocks)
		if r, err := Tensions(other); err != want || !slices.Equal(r, l) {
			t.Errorf("%v has the tensions %v, %d, but with blocks in another order %v, %d", s, l, want, r, err)
		}
		other.Ropes = append(other.Ropes[1:], other.Ropes[0])
		if want == api.OK {
			l = append(l[1:], l[0])
		}
		if r, err := Tensions(other); err != want || !slices.Equal(r, l) {
			t.Errorf("%v has the tensions %v, %d, but with ropes in another order %v, %d", s, l, want, r, err)
		}
	}
}

func TestP11_3OtherWay(t *testing.T) {
	for _, s := range append(small(), systems()...) {
		l, want := Tensions(s)
		for i := range s.Ropes {
			back := copied(s)
			back.Ropes[i].Hauled = false
			slices.Reverse(back.Ropes[i].Holds)
			if r, err := Tensions(back); err != want || !slices.Equal(r, l) {
				t.Errorf("%v has the tensions %v, %d, but with the rope %d the other way %v, %d", s, l, want, i, r, err)
			}
		}
	}
}

func TestP11_3LossesDoNotMatter(t *testing.T) {
	for _, s := range systems() {
		l, want := Tensions(s)
		worse := copied(s)
		for _, r := range worse.Ropes {
			for i := 1; i < len(r.Holds)-1; i++ {
				r.Holds[i].Loss = frac(100, 1)
			}
		}
		if r, err := Tensions(worse); err != want || !slices.Equal(r, l) {
			t.Errorf("%v has the tensions %v, %d, but with other losses %v, %d", s, l, want, r, err)
		}
	}
}
