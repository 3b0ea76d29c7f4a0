package reeving

import (
	"strconv"
	"strings"
	"testing"

	"loftblock/api"
)

func TestP10_3Text(t *testing.T) {
	for _, c := range []struct {
		s    api.System
		want string
	}{{example(), "block b 300\nrope r hauled - 0 1 b 2 1 - 0 1 b 2 1 - 0 1\n"}, {two(), twoText}} {
		before := copied(c.s)
		if text, err := Text(c.s); text != c.want || err != api.OK {
			t.Errorf("Text(%v) = %q, %d; want %q", c.s, text, err, c.want)
		}
		isSystem(t, "Text", c.s, before)
	}
	for name, s := range wrong() {
		if text, err := Text(s); text != "" || err != api.ErrArg {
			t.Errorf("%s: Text = %q, %d", name, text, err)
		}
	}
}

func TestP10_3Parse(t *testing.T) {
	for _, s := range systems() {
		text, _ := Text(s)
		got, at, err := Parse(text)
		if err != api.OK || at != (api.Pos{}) || !Same(got, s) {
			t.Errorf("Parse(%q) = %v, %v, %d; want %v", text, got, at, err, s)
		}
	}
}

// parseFails checks that a text has an error; the line is 0 for no position.
func parseFails(t *testing.T, text string, line int, want api.Errno) {
	t.Helper()
	place := api.Pos{}
	if line > 0 {
		place = api.Pos{Line: line, Column: 1}
	}
	s, at, err := Parse(text)
	if err != want || at != place || s.Blocks != nil || s.Ropes != nil {
		t.Errorf("Parse(%.60q) = %v, %v, %d; want %v, %d", text, s, at, err, place, want)
	}
}

func TestP10_3ParseFormOfBlocks(t *testing.T) {
	for _, line := range []string{"", " ", "block", "block ", "block b", "block b ", "block b 3 ", "block b 3 4", " block b 3", "block  b 3", "block b  3", "block\tb 3", "block b 3\r",
		"Block b 3", "blocks b 3", "b 3", "block 3 b", "block - 3", "block _b 3", "block b-c 3", "block é 3", "block " + strings.Repeat("b", 21) + " 3", "block  3", "\x00", "\xff",
		"block b 03", "block b 00", "block b +3", "block b -0", "block b -03", "block b 3.0", "block b 3/1", "block b 0x3", "block b 1_0", "block b 1e3", "block b x", "block b --3", "block b -",
		"block b 12345678901", "block b -1234567890", "block b 99999999999999999999999", "# block b 3", "block b 3 # comment"} {
		parseFails(t, line+"\n", 1, api.ErrForm)
		parseFails(t, "block c 3\n"+line+"\n", 2, api.ErrForm)
		parseFails(t, "block c 3\n"+line+"\n"+"rope\n", 2, api.ErrForm)
	}
}

func TestP10_3ParseFormOfRopes(t *testing.T) {
	for _, line := range []string{"rope", "rope r", "rope r hauled", "rope r fixed", "rope r fixed ", "rope r loose - 0 1", "rope r Fixed - 0 1", "rope r - 0 1", "rope r fixed hauled - 0 1", "rope r  - 0 1",
		"rope - fixed - 0 1", "rope 1 fixed - 0 1", "rope  fixed - 0 1", "ropes r fixed - 0 1", "rope " + strings.Repeat("r", 21) + " fixed - 0 1",
		"rope r fixed -", "rope r fixed - 0", "rope r fixed - 0 ", "rope r fixed - 0 1 ", "rope r fixed - 0 1 b", "rope r fixed - 0 1 b 1", "rope r fixed - 0 1  b 1 1", "rope r fixed  - 0 1", "rope r fixed - 0  1",
		"rope r fixed -- 0 1", "rope r fixed + 0 1", "rope r fixed 1 0 1", "rope r fixed b_ 0 -", "rope r fixed " + strings.Repeat("b", 21) + " 0 1", "rope r fixed  0 1",
		"rope r fixed - 00 1", "rope r fixed - -0 1", "rope r fixed - +1 1", "rope r fixed - x 1", "rope r fixed - 12345678901 1", "rope r fixed - -1234567890 1", "rope r fixed - 1/1 1",
		"rope r fixed - 0 2/2", "rope r fixed - 0 1/1", "rope r fixed - 0 2/4", "rope r fixed - 0 1/0", "rope r fixed - 0 0/1", "rope r fixed - 0 01", "rope r fixed - 0 +1", "rope r fixed - 0 -0", "rope r fixed - 0 1/-2", "rope r fixed - 0 x",
		"rope r fixed - 0 1.0", "rope r fixed - 0 1152921504606846977", "rope r fixed - 0 1 b 1 1\r", "rope r fixed - 0 1 b 1 1 #"} {
		parseFails(t, line+"\n", 1, api.ErrForm)
		parseFails(t, twoText+line+"\n", 5, api.ErrForm)
		parseFails(t, twoText+line, 5, api.ErrForm)
	}
}

func TestP10_3ParseFormOfTexts(t *testing.T) {
	parseFails(t, "\n", 1, api.ErrForm)
	parseFails(t, "block b 3\nrope r fixed - 0 1 b 1 1\nblock c 4\n", 3, api.ErrForm)
	parseFails(t, "rope r fixed - 0 1 b 1 1\nblock b 3\n", 2, api.ErrForm)
	parseFails(t, twoText+"\n", 5, api.ErrForm)
	parseFails(t, "\n"+twoText, 1, api.ErrForm)
	parseFails(t, strings.Replace(twoText, "\nrope", "\n\nrope", 1), 3, api.ErrForm)
	// All that is missing is the newline at the end.
	for i := range twoText {
		if i > 0 && twoText[i-1] != '\n' {
			parseFails(t, twoText[:i], 1+strings.Count(twoText[:i], "\n"), api.ErrForm)
		}
	}
}

func TestP10_3ParseOfWrongSystems(t *testing.T) {
	right := "block b 3\nrope r fixed - 0 1 b 1 1\n"
	if s, at, err := Parse(right); err != api.OK || at != (api.Pos{}) || !Valid(s) {
		t.Errorf("Parse(%q) = %v, %v, %d", right, s, at, err)
	}
	for _, text := range []string{"", "block b 3\n", "rope r fixed - 0 1 - 0 1\n", right + right[10:], "block b 4\n" + right, "block r 4\n" + right,
		"block b -3\nrope r fixed - 0 1 b 1 1\n", "block b -123456789\nrope r fixed - 0 1 b 1 1\n", "block b 1234567890\nrope r fixed - 0 1 b 1 1\n", "block b 16777217\nrope r fixed - 0 1 b 1 1\n",
		"block b 3\nrope r fixed - 0 1\n", "block b 3\nrope r fixed - 0 1 c 1 1\n", "block b 3\nrope r fixed - 1 1 b 1 1\n", "block b 3\nrope r fixed - 0 1 b 2 1\n", "block b 3\nrope r fixed - 0 1 b 123456789 1\n",
		"block b 3\nrope r fixed - 0 2 b 1 1\n", "block b 3\nrope r fixed - 0 1 b 1 -5/7\n", "block b 3\nrope r fixed - 0 1 b 2 101/100 b 1 1\n", "block b 3\nrope r fixed - 0 1 b 2 1152921504606846976 b 1 1\n",
		"block b 3\nrope r hauled - 0 1 b 1 1\n", "block b 3\nrope r hauled - 0 1 - 0 1\nrope q hauled - 0 1 - 0 1\n",
		"block b 3\nrope r fixed" + strings.Repeat(" - 0 1", 11) + "\n"} {
		parseFails(t, text, 0, api.ErrArg)
	}
	blocks, ropes := "", ""
	for i := range 7 {
		blocks += "block c" + strconv.Itoa(i) + " 0\n"
		ropes += "rope q" + strconv.Itoa(i) + " fixed - 0 1 - 0 1\n"
	}
	parseFails(t, blocks+right[10:], 0, api.ErrArg)
	parseFails(t, "block b 3\n"+ropes, 0, api.ErrArg)
}

func TestP10_3ParseFirstError(t *testing.T) {
	long := strings.Repeat("block b 3\n", api.MaxText/10)
	long += strings.Repeat("b", api.MaxText-len(long))
	lines := api.MaxText / 10
	parseFails(t, long, lines+1, api.ErrForm)
	parseFails(t, long+"b", 0, api.ErrFull)
	even := strings.Repeat("block b 1234567\n", api.MaxText/16)
	if len(even) != api.MaxText {
		t.Fatalf("the text has %d bytes", len(even))
	}
	parseFails(t, even, 0, api.ErrArg)
	parseFails(t, even+"\n", 0, api.ErrFull)
	parseFails(t, strings.Repeat("\n", api.MaxText), 1, api.ErrForm)
	parseFails(t, strings.Repeat("x", api.MaxText+1), 0, api.ErrFull)
	// A wrong form comes before a wrong system.
	parseFails(t, "block b 3\nblock b 3\nrope r fixed - 7 1\nrope q\n", 4, api.ErrForm)
	parseFails(t, "block b -3\nblock b\n", 2, api.ErrForm)
}

func TestP10_3ParseOfChangedTexts(t *testing.T) {
	// What is read from a text has this text, and no other one.
	for i := range twoText {
		for _, c := range []byte(" \n-/0123+_abcr\x00\xff") {
			for _, text := range []string{twoText[:i] + string([]byte{c}) + twoText[i:], twoText[:i] + string([]byte{c}) + twoText[i+1:], twoText[:i] + twoText[i+1:]} {
				s, at, err := Parse(text)
				made, _ := Text(s)
				switch {
				case err == api.OK && (made != text || at != api.Pos{}):
					t.Errorf("Parse(%q) = %v, %v, %d, with the text %q", text, s, at, err, made)
				case err == api.ErrForm && (at.Column != 1 || at.Line < 1 || at.Line > 1+strings.Count(text, "\n")):
					t.Errorf("Parse(%q) = %v, %v, %d", text, s, at, err)
				case err == api.ErrArg && at != api.Pos{}:
					t.Errorf("Parse(%q) = %v, %v, %d", text, s, at, err)
				case err != api.OK && !Same(s, api.System{}):
					t.Errorf("Parse(%q) = %v, %v, %d", text, s, at, err)
				}
			}
		}
	}
}
