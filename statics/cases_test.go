package statics

import (
	"math"
	"math/big"
	"slices"
	"strconv"
	"testing"

	"loftblock/api"
	"loftblock/reeving"
)

// top is the greatest numerator and denominator.
const top = api.MaxFrac

// frac returns a fraction as it stands, valid or not.
func frac(num, den int) api.Frac { return api.Frac{Num: num, Den: den} }

// wholes returns integers as fractions.
func wholes(numbers ...int) []api.Frac {
	list := make([]api.Frac, len(numbers))
	for i, n := range numbers {
		list[i] = frac(n, 1)
	}
	return list
}

// parsed returns the system with a text.
func parsed(text string) api.System {
	s, _, err := reeving.Parse(text)
	if err != api.OK {
		panic(text)
	}
	return s
}

// The systems of the examples of the document, and some others by their texts.
const (
	bight    = "block b 60\nrope r hauled - 0 1 b 2 1 - 0 1\n"
	own      = "block b 60\nrope r fixed - 0 1 b 2 1 - 0 1 b 1 1\n"
	twoRopes = "block b 300\nblock c 45\nrope r fixed b 1 1 c -2 1 - 0 1\nrope q hauled b 1 1 - 0 1 c 2 1 b 2 1 - 0 1\n"
	freeGap  = "block b 0\nblock c 1\nrope r fixed - 0 1 b 1 1\nrope q hauled - 0 1 b 2 1 - 0 1\n"
)

// numbers returns a function that returns one pseudo-random number after the other, always the same ones, from low to high.
func numbers() func(low, high int) int {
	state := uint64(1)
	return func(low, high int) int {
		state = state*6364136223846793005 + 1442695040888963407
		return low + int(state>>11%uint64(high-low+1))
	}
}

// holdAt returns a hold at the place of a number: 0 is the building, others are blocks.
func holdAt(place, pulls int) api.Hold {
	if place == 0 {
		return api.Hold{Loss: frac(1, 1)}
	}
	return api.Hold{Block: "b" + strconv.Itoa(place), Pulls: pulls, Loss: frac(1, 1)}
}

// blocksOf returns blocks with some weights, and the names of holdAt.
func blocksOf(weights ...int) []api.Block {
	var list []api.Block
	for i, weight := range weights {
		list = append(list, api.Block{Name: "b" + strconv.Itoa(i+1), Weight: weight})
	}
	return list
}

// ropesOf returns ropes with some holds.
func ropesOf(holds ...[]api.Hold) []api.Rope {
	var list []api.Rope
	for i, l := range holds {
		list = append(list, api.Rope{Name: "r" + strconv.Itoa(i+1), Holds: slices.Clone(l)})
	}
	return list
}

// smallRopes returns the holds of all ropes with at most one sheave at one of two blocks.
func smallRopes() [][]api.Hold {
	ends, sheaves := []api.Hold{holdAt(0, 0)}, []api.Hold{holdAt(0, 0)}
	for _, sign := range []int{1, -1} {
		for place := 1; place <= 2; place++ {
			ends = append(ends, holdAt(place, sign))
			sheaves = append(sheaves, holdAt(place, 2*sign))
		}
	}
	var ropes [][]api.Hold
	for _, first := range ends {
		for _, sheave := range sheaves {
			for _, last := range ends {
				ropes = append(ropes, []api.Hold{first, sheave, last})
			}
		}
	}
	return ropes
}

// small returns all systems of two blocks and up to two small ropes, with weights that go on from one to the next.
func small() []api.System {
	weights := [][2]int{{60, 100}, {0, 0}, {0, 7}, {5, 0}, {12, 12}, {10, 20}, {1 << 24, 1<<24 - 1}}
	var all []api.System
	add := func(holds ...[]api.Hold) {
		w := weights[len(all)%len(weights)]
		all = append(all, api.System{Blocks: blocksOf(w[0], w[1]), Ropes: ropesOf(holds...)})
	}
	ropes := smallRopes()
	for _, a := range ropes {
		add(a)
		for _, b := range ropes {
			add(a, b)
		}
	}
	return all
}

// mixedRope returns the holds of a pseudo-random rope. The last one is at the building, if it is hauled.
func mixedRope(next func(low, high int) int, blocks int, hauled bool) []api.Hold {
	holds := []api.Hold{holdAt(next(0, blocks), 2*next(0, 1)-1)}
	for range next(0, api.MaxHolds-2) {
		h := holdAt(next(0, blocks), 2*next(-1, 1))
		h.Loss = frac(next(20, 22), 19)
		holds = append(holds, h)
	}
	if hauled {
		return append(holds, holdAt(0, 0))
	}
	return append(holds, holdAt(next(0, blocks), 2*next(0, 1)-1))
}

// mixed returns a pseudo-random system, without weights.
func mixed(next func(low, high int) int, blocks, ropes int) api.System {
	hauled := next(-1, ropes-1)
	var holds [][]api.Hold
	for i := range ropes {
		holds = append(holds, mixedRope(next, blocks, i == hauled))
	}
	s := api.System{Blocks: blocksOf(make([]int, blocks)...), Ropes: ropesOf(holds...)}
	if hauled >= 0 {
		s.Ropes[hauled].Hauled = true
	}
	return s
}

// weigh gives the blocks of a system the weights with which it is in equilibrium with pseudo-random tensions. Where a weight would be negative, all holds at its block pull the other way instead.
func weigh(next func(low, high int) int, s api.System, most int) {
	tensions := make([]int, len(s.Ropes))
	for i := range tensions {
		tensions[i] = next(-most, most)
	}
	for i := range s.Blocks {
		weight := 0
		for j, tension := range tensions {
			weight += pullOf(s, i, j) * tension
		}
		s.Blocks[i].Weight = max(weight, -weight)
		if weight < 0 {
			turn(s, s.Blocks[i].Name)
		}
	}
}

// turn lets all holds at a block pull the other way.
func turn(s api.System, block string) {
	for _, r := range s.Ropes {
		for i := range r.Holds {
			if r.Holds[i].Block == block {
				r.Holds[i].Pulls = -r.Holds[i].Pulls
			}
		}
	}
}

// systems returns valid systems of all sizes: for half of them it is known that they are in equilibrium with some tensions.
func systems() []api.System {
	all := []api.System{parsed(bight), parsed(own), parsed(twoRopes), parsed(freeGap)}
	next := numbers()
	for blocks := 1; blocks <= api.MaxBlocks; blocks++ {
		for ropes := 1; ropes <= api.MaxRopes; ropes++ {
			for _, most := range []int{9, 1000, 100000} {
				for range 4 {
					s := mixed(next, blocks, ropes)
					weigh(next, s, most)
					other := copied(s)
					for i := range other.Blocks {
						other.Blocks[i].Weight = next(0, 1<<24)
					}
					all = append(all, s, other)
				}
			}
		}
	}
	return all
}

// copied returns a system that shares no memory with s.
func copied(s api.System) api.System {
	c := api.System{Blocks: slices.Clone(s.Blocks), Ropes: slices.Clone(s.Ropes)}
	for i, r := range c.Ropes {
		c.Ropes[i].Holds = slices.Clone(r.Holds)
	}
	return c
}

// wrong returns systems that are not valid, by what is wrong with them.
func wrong() map[string]api.System {
	all := map[string]api.System{"zero": {}}
	add := func(name string, change func(s *api.System)) {
		s := parsed(twoRopes)
		change(&s)
		all[name] = s
	}
	add("no blocks", func(s *api.System) { s.Blocks = nil })
	add("no ropes", func(s *api.System) { s.Ropes = nil })
	add("a negative weight", func(s *api.System) { s.Blocks[1].Weight = -1 })
	add("a great weight", func(s *api.System) { s.Blocks[0].Weight = 1<<24 + 1 })
	add("the greatest weight", func(s *api.System) { s.Blocks[0].Weight = math.MaxInt })
	add("names that are equal", func(s *api.System) { s.Ropes[0].Name = "c" })
	add("an unknown block", func(s *api.System) { s.Ropes[0].Holds[1].Block = "d" })
	add("a pull of a sheave at an end", func(s *api.System) { s.Ropes[0].Holds[0].Pulls = 2 })
	add("a small loss", func(s *api.System) { s.Ropes[1].Holds[2].Loss = frac(19, 20) })
	add("a loss that is no fraction", func(s *api.System) { s.Ropes[1].Holds[2].Loss = frac(4, 2) })
	add("two hauled ropes", func(s *api.System) { s.Ropes[0].Hauled = true })
	add("too many ropes", func(s *api.System) {
		for i := range api.MaxRopes - 1 {
			s.Ropes = append(s.Ropes, api.Rope{Name: "d" + strconv.Itoa(i), Holds: []api.Hold{holdAt(0, 0), holdAt(0, 0)}})
		}
	})
	return all
}

// pullOf returns the pull of a rope at a block.
func pullOf(s api.System, block, rope int) int {
	pull := 0
	for _, h := range s.Ropes[rope].Holds {
		if h.Block == s.Blocks[block].Name {
			pull += h.Pulls
		}
	}
	return pull
}

func value(a api.Frac) *big.Rat { return big.NewRat(int64(a.Num), int64(a.Den)) }

func integer(n int) *big.Rat { return big.NewRat(int64(n), 1) }

func fits(r *big.Rat) bool {
	limit := big.NewInt(top)
	return r.Num().CmpAbs(limit) <= 0 && r.Denom().Cmp(limit) <= 0
}

// isList reports whether fractions are in lowest terms, and have some values.
func isList(l []api.Frac, values []*big.Rat) bool {
	return slices.EqualFunc(l, values, func(a api.Frac, r *big.Rat) bool {
		return r.Num().IsInt64() && r.Denom().IsInt64() && a == frac(int(r.Num().Int64()), int(r.Denom().Int64()))
	})
}

// rankOf returns the rank of some rows, which are lost.
func rankOf(rows [][]*big.Rat) int {
	rank := 0
	for column := range rows[0] {
		at := slices.IndexFunc(rows[rank:], func(row []*big.Rat) bool { return row[column].Sign() != 0 })
		if at < 0 {
			continue
		}
		rows[rank], rows[rank+at] = rows[rank+at], rows[rank]
		first := rows[rank]
		rank++
		for _, row := range rows[rank:] {
			factor := new(big.Rat).Quo(row[column], first[column])
			for j := range row {
				row[j].Sub(row[j], new(big.Rat).Mul(factor, first[j]))
			}
		}
		if rank == len(rows) {
			break
		}
	}
	return rank
}

// rows returns the pulls at each block of a system, and behind them its weight, if so wished.
func rows(s api.System, weights bool) [][]*big.Rat {
	all := make([][]*big.Rat, len(s.Blocks))
	for i, b := range s.Blocks {
		for j := range s.Ropes {
			all[i] = append(all[i], integer(pullOf(s, i, j)))
		}
		if weights {
			all[i] = append(all[i], integer(b.Weight))
		}
	}
	return all
}

// verdict returns how many tensions hold a system: OK for one, ErrGap for none, ErrFree for several.
func verdict(s api.System) api.Errno {
	rank := rankOf(rows(s, false))
	switch {
	case rankOf(rows(s, true)) > rank:
		return api.ErrGap
	case rank < len(s.Ropes):
		return api.ErrFree
	}
	return api.OK
}

// adder adds products, and keeps whether one of them, or one of the sums, did not fit.
type adder struct {
	sum *big.Rat
	big bool
}

// add adds the product of a pull and a tension.
func (a *adder) add(pull int, tension api.Frac) {
	part := new(big.Rat).Mul(integer(pull), value(tension))
	a.sum = new(big.Rat).Add(a.sum, part)
	a.big = a.big || !fits(part) || !fits(a.sum)
}

// residualsOf returns the residuals, and whether all products and sums fit.
func residualsOf(s api.System, l []api.Frac) ([]*big.Rat, bool) {
	var list []*big.Rat
	all := true
	for i, b := range s.Blocks {
		a := adder{sum: new(big.Rat)}
		for j, tension := range l {
			a.add(pullOf(s, i, j), tension)
		}
		residual := new(big.Rat).Sub(integer(b.Weight), a.sum)
		all = all && !a.big && fits(residual)
		list = append(list, residual)
	}
	return list, all
}

// totalOf returns the total, and whether all products and sums fit.
func totalOf(s api.System, l []api.Frac) (*big.Rat, bool) {
	a := adder{sum: new(big.Rat)}
	for j, tension := range l {
		pulls := 0
		for _, h := range s.Ropes[j].Holds {
			pulls += h.Pulls
		}
		a.add(pulls, tension)
	}
	return a.sum, !a.big
}

// isSystem checks that a system is as it was before a call.
func isSystem(t *testing.T, call string, s, before api.System) {
	t.Helper()
	if !reeving.Same(s, before) {
		t.Errorf("%s changed its system: %v, before %v", call, s, before)
	}
}
