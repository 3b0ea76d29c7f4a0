package reeving

import (
	"strconv"
	"strings"

	"loftblock/api"
	"loftblock/decimal"
	"loftblock/ratio"
)

// The words of a text that are not names or numbers.
const (
	wordBlock    = "block"
	wordRope     = "rope"
	wordHauled   = "hauled"
	wordFixed    = "fixed"
	wordBuilding = "-"
)

// maxDigits is the greatest number of bytes of an integer in a text.
const maxDigits = 10

// Text returns the text of a system.
func Text(s api.System) (string, api.Errno) {
	if !Valid(s) {
		return "", api.ErrArg
	}
	text := ""
	for _, block := range s.Blocks {
		text += lineOf(wordBlock, block.Name, strconv.Itoa(block.Weight))
	}
	for _, rope := range s.Ropes {
		text += lineOf(ropeWords(rope)...)
	}
	return text, api.OK
}

// lineOf returns the line with some words.
func lineOf(words ...string) string {
	return strings.Join(words, " ") + "\n"
}

// ropeWords returns the words of the line of a rope.
func ropeWords(r api.Rope) []string {
	words := []string{wordRope, r.Name, wordFixed}
	if r.Hauled {
		words[2] = wordHauled
	}
	for _, hold := range r.Holds {
		block := hold.Block
		if block == "" {
			block = wordBuilding
		}
		// The system is valid, so its losses have texts.
		loss, _ := ratio.Text(hold.Loss)
		words = append(words, block, strconv.Itoa(hold.Pulls), loss)
	}
	return words
}

// Parse returns the system with the text s, or the position of the first line that is wrong.
func Parse(s string) (api.System, api.Pos, api.Errno) {
	if len(s) > api.MaxText {
		return api.System{}, api.Pos{}, api.ErrFull
	}
	var system api.System
	for number := 1; s != ""; number++ {
		line, rest, ended := strings.Cut(s, "\n")
		if !ended || !readLine(line, &system) {
			return api.System{}, api.Pos{Line: number, Column: 1}, api.ErrForm
		}
		s = rest
	}
	if !Valid(system) {
		return api.System{}, api.Pos{}, api.ErrArg
	}
	return system, api.Pos{}, api.OK
}

// source returns the next word of a line, and whether there is one.
type source func() (word string, found bool)

// wordsOf returns the source of the words of a line. Between two spaces there is a word, too: the empty one.
func wordsOf(line string) source {
	more := true
	return func() (word string, found bool) {
		found = more
		word, line, more = strings.Cut(line, " ")
		return word, found
	}
}

// readLine adds the block, or the rope, of a line to a system, and reports whether the line has its form.
func readLine(line string, s *api.System) bool {
	next := wordsOf(line)
	switch kind, _ := next(); kind {
	case wordBlock:
		block, isRight := readBlock(next)
		s.Blocks = append(s.Blocks, block)
		return isRight && len(s.Ropes) == 0
	case wordRope:
		rope, isRight := readRope(next)
		s.Ropes = append(s.Ropes, rope)
		return isRight
	default:
		return false
	}
}

// readBlock reads the rest of the line of a block. A word that is missing is empty: so it is no name, and no integer.
func readBlock(next source) (api.Block, bool) {
	name, _ := next()
	weight, isInteger := readInteger(next)
	_, more := next()
	return api.Block{Name: name, Weight: weight}, decimal.IsName(name) && isInteger && !more
}

// readRope reads the rest of the line of a rope.
func readRope(next source) (api.Rope, bool) {
	name, _ := next()
	kind, _ := next()
	if !decimal.IsName(name) || kind != wordHauled && kind != wordFixed {
		return api.Rope{}, false
	}
	rope := api.Rope{Name: name, Hauled: kind == wordHauled}
	for block, more := next(); more; block, more = next() {
		hold, isRight := readHold(block, next)
		if !isRight {
			return api.Rope{}, false
		}
		rope.Holds = append(rope.Holds, hold)
	}
	return rope, len(rope.Holds) > 0
}

// readHold reads the words of a hold that come after its block.
func readHold(block string, next source) (api.Hold, bool) {
	pulls, isInteger := readInteger(next)
	text, _ := next()
	loss, err := ratio.Parse(text)
	if block == wordBuilding {
		return api.Hold{Pulls: pulls, Loss: loss}, isInteger && err == api.OK
	}
	return api.Hold{Block: block, Pulls: pulls, Loss: loss}, isInteger && err == api.OK && decimal.IsName(block)
}

// readInteger reads an integer.
func readInteger(next source) (int, bool) {
	word, _ := next()
	n, err := strconv.Atoi(word)
	// Atoi also reads plus signs and superfluous zeros, so the text is made again and compared.
	return n, err == nil && len(word) <= maxDigits && strconv.Itoa(n) == word
}
