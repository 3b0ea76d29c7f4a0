// Package graph is layer 6: undirected graphs: parts, forests, cycles, bridges, and paths; see shared/doc/06-graph.md.
package graph

import "loftblock/api"

func Valid(n int, edges [][2]int) (_ bool) { return }

func Parts(n int, edges [][2]int) (_ [][]int, _ api.Errno) { return }

func Forest(n int, edges [][2]int) (_ []int, _ api.Errno) { return }

func Cycles(n int, edges [][2]int) (_ [][]int, _ api.Errno) { return }

func Bridges(n int, edges [][2]int) (_ []int, _ api.Errno) { return }

func Path(n int, edges [][2]int, a, b int) (_ []int, _ api.Errno) { return }

func Count(n int, edges [][2]int) (_ int, _ api.Errno) { return }

func Cycle(n int, edges [][2]int, list []int) (_ bool, _ api.Errno) { return }
