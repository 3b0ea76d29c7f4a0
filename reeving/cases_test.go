package reeving

import (
	"math"
	"slices"
	"strconv"
	"strings"
	"testing"

	"loftblock/api"
)

// frac returns a fraction as it stands, valid or not.
func frac(num, den int) api.Frac { return api.Frac{Num: num, Den: den} }

// fixed returns a hold at the building.
func fixed() api.Hold { return api.Hold{Loss: frac(1, 1)} }

// hold returns a hold without a loss.
func hold(block string, pulls int) api.Hold {
	return api.Hold{Block: block, Pulls: pulls, Loss: frac(1, 1)}
}

// example returns the system of the examples of the document.
func example() api.System {
	return api.System{
		Blocks: []api.Block{{Name: "b", Weight: 300}},
		Ropes:  []api.Rope{{Name: "r", Hauled: true, Holds: []api.Hold{fixed(), hold("b", 2), fixed(), hold("b", 2), fixed()}}},
	}
}

// two returns a system of two blocks and two ropes, one of which is hauled.
func two() api.System {
	return api.System{
		Blocks: []api.Block{{Name: "b", Weight: 300}, {Name: "c"}},
		Ropes: []api.Rope{
			{Name: "r", Hauled: true, Holds: []api.Hold{hold("b", 1), {Loss: frac(21, 20)}, {Block: "b", Pulls: 2, Loss: frac(11, 10)}, fixed()}},
			{Name: "q", Holds: []api.Hold{fixed(), hold("c", -2), hold("c", 0), hold("b", -1)}},
		},
	}
}

// twoText is the text of two.
const twoText = "block b 300\nblock c 0\nrope r hauled b 1 1 - 0 21/20 b 2 11/10 - 0 1\nrope q fixed - 0 1 c -2 1 c 0 1 b -1 1\n"

// numbers returns a function that returns one pseudo-random number after the other, always the same ones, from low to high.
func numbers() func(low, high int) int {
	state := uint64(1)
	return func(low, high int) int {
		state = state*6364136223846793005 + 1442695040888963407
		return low + int(state>>11%uint64(high-low+1))
	}
}

// losses are losses of sheaves, up to the limits.
var losses = []api.Frac{frac(1, 1), frac(11, 10), frac(100, 99), frac(100, 1), frac(7, 3)}

// mixedHold returns a pseudo-random hold of a system with some blocks.
func mixedHold(next func(low, high int) int, blocks []api.Block, end bool) api.Hold {
	h := fixed()
	if !end {
		h.Loss = losses[next(0, len(losses)-1)]
	}
	i := next(-1, len(blocks)-1)
	if i < 0 {
		return h
	}
	h.Block = blocks[i].Name
	if end {
		h.Pulls = 2*next(0, 1) - 1
	} else {
		h.Pulls = 2 * next(-1, 1)
	}
	return h
}

// mixed returns a valid pseudo-random system.
func mixed(next func(low, high int) int, blocks, ropes int) api.System {
	var s api.System
	for i := range blocks {
		s.Blocks = append(s.Blocks, api.Block{Name: strings.Repeat("block", next(1, 3)) + strconv.Itoa(i), Weight: next(0, 1<<24)})
	}
	hauled := next(-1, ropes-1)
	for i := range ropes {
		r := api.Rope{Name: strings.Repeat("r", next(1, 19)) + strconv.Itoa(i), Hauled: i == hauled}
		holds := next(2, api.MaxHolds)
		for j := range holds {
			r.Holds = append(r.Holds, mixedHold(next, s.Blocks, j == 0 || j == holds-1))
		}
		if r.Hauled {
			r.Holds[holds-1] = fixed()
		}
		s.Ropes = append(s.Ropes, r)
	}
	return s
}

// full returns a system that is as large as it may be, with the names that are longest, and the greatest pulls.
func full() api.System {
	var s api.System
	for i := range api.MaxBlocks {
		s.Blocks = append(s.Blocks, api.Block{Name: strings.Repeat("b", 19) + strconv.Itoa(i), Weight: 1 << 24})
	}
	for i := range api.MaxRopes {
		r := api.Rope{Name: strings.Repeat("r", 19) + strconv.Itoa(i)}
		b := s.Blocks[i].Name
		r.Holds = append(r.Holds, hold(b, 1))
		for range api.MaxHolds - 2 {
			r.Holds = append(r.Holds, api.Hold{Block: b, Pulls: 2, Loss: frac(100, 99)})
		}
		r.Holds = append(r.Holds, hold(b, 1))
		s.Ropes = append(s.Ropes, r)
	}
	return s
}

// systems returns valid systems of all sizes.
func systems() []api.System {
	all := []api.System{example(), two(), full()}
	next := numbers()
	for blocks := 1; blocks <= api.MaxBlocks; blocks++ {
		for ropes := 1; ropes <= api.MaxRopes; ropes++ {
			for range 5 {
				all = append(all, mixed(next, blocks, ropes))
			}
		}
	}
	return all
}

// copied returns a system that shares no memory with s.
func copied(s api.System) api.System {
	c := api.System{Blocks: slices.Clone(s.Blocks), Ropes: slices.Clone(s.Ropes)}
	for i, r := range c.Ropes {
		c.Ropes[i].Holds = slices.Clone(r.Holds)
	}
	return c
}

// strangers are strings that are no names.
var strangers = []string{"", "-", "1", "_b", "b c", "b ", " b", "b\n", "b-c", "é", "\x00", "\xff", strings.Repeat("b", 21)}

// outside returns integers that are not from low to high.
func outside(low, high int) []int {
	return []int{low - 1, high + 1, low - 1<<32, high + 1<<32, math.MinInt, math.MaxInt}
}

// wrong returns systems that are not valid, by what is wrong with them.
func wrong() map[string]api.System {
	all := map[string]api.System{"zero": {}}
	add := func(name string, change func(s *api.System)) {
		s := two()
		change(&s)
		all[name] = s
	}
	add("no blocks", func(s *api.System) {
		s.Blocks = nil
		s.Ropes = []api.Rope{{Name: "r", Holds: []api.Hold{fixed(), fixed()}}}
	})
	add("no ropes", func(s *api.System) { s.Ropes = []api.Rope{} })
	add("too many blocks", func(s *api.System) {
		for i := range api.MaxBlocks - 1 {
			s.Blocks = append(s.Blocks, api.Block{Name: "d" + strconv.Itoa(i)})
		}
	})
	add("too many ropes", func(s *api.System) {
		for i := range api.MaxRopes - 1 {
			s.Ropes = append(s.Ropes, api.Rope{Name: "d" + strconv.Itoa(i), Holds: []api.Hold{fixed(), fixed()}})
		}
	})
	add("blocks with one name", func(s *api.System) { s.Blocks[1].Name = "b" })
	add("ropes with one name", func(s *api.System) { s.Ropes[1].Name = "r" })
	add("a rope with the name of a block", func(s *api.System) { s.Ropes[1].Name = "c" })
	for _, name := range strangers {
		add("block "+strconv.Quote(name), func(s *api.System) {
			s.Blocks[1].Name, s.Ropes[1].Holds[1].Block, s.Ropes[1].Holds[2].Block = name, name, name
		})
		add("lonely block "+strconv.Quote(name), func(s *api.System) { s.Blocks = append(s.Blocks, api.Block{Name: name}) })
		add("rope "+strconv.Quote(name), func(s *api.System) { s.Ropes[1].Name = name })
	}
	for _, n := range outside(0, 1<<24) {
		add("weight "+strconv.Itoa(n), func(s *api.System) { s.Blocks[1].Weight = n })
	}
	add("no holds", func(s *api.System) { s.Ropes[1].Holds = nil })
	add("one hold", func(s *api.System) { s.Ropes[1].Holds = s.Ropes[1].Holds[:1] })
	add("too many holds", func(s *api.System) { s.Ropes[1].Holds = slices.Repeat([]api.Hold{fixed()}, api.MaxHolds+1) })
	add("two hauled ropes", func(s *api.System) {
		s.Ropes[1] = api.Rope{Name: "q", Hauled: true, Holds: []api.Hold{fixed(), fixed()}}
	})
	add("hauled at a block", func(s *api.System) { s.Ropes[0].Holds = append(s.Ropes[0].Holds[:3], hold("c", 1)) })
	return all
}

// isSystem checks that a valid system is as it was before a call.
func isSystem(t *testing.T, call string, s, before api.System) {
	t.Helper()
	if !Same(s, before) {
		t.Errorf("%s changed its system: %v, before %v", call, s, before)
	}
}
