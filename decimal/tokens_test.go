package decimal

import (
	"regexp"
	"slices"
	"strings"
	"testing"

	"loftblock/api"
)

func at(line, column int) api.Pos { return api.Pos{Line: line, Column: column} }

func name(s string, line, column int) api.Token {
	return api.Token{Kind: api.TokName, Text: s, At: at(line, column)}
}

func num(s string, line, column int) api.Token {
	return api.Token{Kind: api.TokNumber, Text: s, At: at(line, column)}
}

func sym(s string, line, column int) api.Token {
	return api.Token{Kind: api.TokSymbol, Text: s, At: at(line, column)}
}

func newline(line, column int) api.Token { return api.Token{Kind: api.TokLine, At: at(line, column)} }

func end(line, column int) api.Token { return api.Token{Kind: api.TokEnd, At: at(line, column)} }

func TestP1_4Tokens(t *testing.T) {
	for _, c := range []struct {
		s    string
		want []api.Token
	}{
		{"", []api.Token{end(1, 1)}},
		{" \t ", []api.Token{end(1, 4)}},
		{"\n", []api.Token{newline(1, 1), end(2, 1)}},
		{"\n\n a", []api.Token{newline(1, 1), newline(2, 1), name("a", 3, 2), end(3, 3)}},
		{"set g1 := 0 # off", []api.Token{name("set", 1, 1), name("g1", 1, 5), sym(":=", 1, 8), num("0", 1, 11), end(1, 18)}},
		{"#", []api.Token{end(1, 2)}},
		{"# ?.\x00\xff abcdefghijklmnopqrstuvwxyz #\nb", []api.Token{newline(1, 36), name("b", 2, 1), end(2, 2)}},
		{"a#b\n#c", []api.Token{name("a", 1, 1), newline(1, 4), end(2, 3)}},
		{"Az_09Z z", []api.Token{name("Az_09Z", 1, 1), name("z", 1, 8), end(1, 9)}},
		{"a_ b__1", []api.Token{name("a_", 1, 1), name("b__1", 1, 4), end(1, 8)}},
		{"abcdefghijklmnopqrst u", []api.Token{name("abcdefghijklmnopqrst", 1, 1), name("u", 1, 22), end(1, 23)}},
		{"12 007 1.5 0.50", []api.Token{num("12", 1, 1), num("007", 1, 4), num("1.5", 1, 8), num("0.50", 1, 12), end(1, 16)}},
		{"12345678901234567890123", []api.Token{num("12345678901234567890123", 1, 1), end(1, 24)}},
		{"7a 1.5x", []api.Token{num("7", 1, 1), name("a", 1, 2), num("1.5", 1, 4), name("x", 1, 7), end(1, 8)}},
		{"-1+2", []api.Token{sym("-", 1, 1), num("1", 1, 2), sym("+", 1, 3), num("2", 1, 4), end(1, 5)}},
		{">=<=:=", []api.Token{sym(">=", 1, 1), sym("<=", 1, 3), sym(":=", 1, 5), end(1, 7)}},
		{">==", []api.Token{sym(">=", 1, 1), sym("=", 1, 3), end(1, 4)}},
		{"<>=>", []api.Token{sym("<", 1, 1), sym(">=", 1, 2), sym(">", 1, 4), end(1, 5)}},
		{"::= =:", []api.Token{sym(":", 1, 1), sym(":=", 1, 2), sym("=", 1, 5), sym(":", 1, 6), end(1, 7)}},
		{"> = : =\n=", []api.Token{sym(">", 1, 1), sym("=", 1, 3), sym(":", 1, 5), sym("=", 1, 7), newline(1, 8), sym("=", 2, 1), end(2, 2)}},
		{":\n=", []api.Token{sym(":", 1, 1), newline(1, 2), sym("=", 2, 1), end(2, 2)}},
		{"-=+=", []api.Token{sym("-", 1, 1), sym("=", 1, 2), sym("+", 1, 3), sym("=", 1, 4), end(1, 5)}},
		{"(a,b;c/d*e)", []api.Token{sym("(", 1, 1), name("a", 1, 2), sym(",", 1, 3), name("b", 1, 4), sym(";", 1, 5), name("c", 1, 6), sym("/", 1, 7), name("d", 1, 8), sym("*", 1, 9), name("e", 1, 10), sym(")", 1, 11), end(1, 12)}},
	} {
		l, pos, e := Tokens(c.s)
		if !slices.Equal(l, c.want) || pos != (api.Pos{}) || e != api.OK {
			t.Errorf("Tokens(%q) = %v, %v, %d; want %v", c.s, l, pos, e, c.want)
		}
	}
}

func TestP1_4TokensForm(t *testing.T) {
	long := strings.Repeat("a", 21)
	for _, c := range []struct {
		s   string
		pos api.Pos
	}{
		{"?", at(1, 1)}, {"a ?", at(1, 3)}, {"\t?", at(1, 2)}, {"a\n\n  ? b", at(3, 3)}, {"# ?\n?", at(2, 1)},
		{"_", at(1, 1)}, {"\n _a", at(2, 2)}, {"1_", at(1, 2)}, {".", at(1, 1)}, {".5", at(1, 1)}, {"7.", at(1, 2)}, {"7.a", at(1, 2)}, {"7. 5", at(1, 2)}, {"7..5", at(1, 2)}, {"1.2.3", at(1, 4)}, {"a.b", at(1, 2)},
		{"a\r\n", at(1, 2)}, {"a\vb", at(1, 2)}, {"\x00", at(1, 1)}, {"a \x80", at(1, 3)}, {"a\u00a0b", at(1, 2)}, {"\u00e9", at(1, 1)}, {"a\u00e9", at(1, 2)},
		{long, at(1, 1)}, {"x " + long, at(1, 3)}, {"x\n" + long + " ?", at(2, 1)}, {"? " + long, at(1, 1)}, {"1" + long, at(1, 2)},
		{"a_3456789_123456789_1", at(1, 1)}, {strings.Repeat("a", api.MaxText), at(1, 1)}, {strings.Repeat(" ", api.MaxText-1) + "?", at(1, api.MaxText)},
	} {
		if l, pos, e := Tokens(c.s); l != nil || pos != c.pos || e != api.ErrForm {
			t.Errorf("Tokens(%.40q) = %v, %v, %d; want ErrForm at %v", c.s, l, pos, e, c.pos)
		}
	}
}

func TestP1_4TokensFull(t *testing.T) {
	for _, part := range []string{" ", "\n", "?", "a", "1", "#", "\xff"} {
		if l, pos, e := Tokens(strings.Repeat(part, api.MaxText+1)); l != nil || pos != (api.Pos{}) || e != api.ErrFull {
			t.Errorf("a text of %q that is too long: %d tokens, %v, %d", part, len(l), pos, e)
		}
	}
	for part, count := range map[string]int{" ": 1, "\n": api.MaxText + 1, "1": 2, "#": 1, "=": api.MaxText + 1, "a ": api.MaxText/2 + 1} {
		l, pos, e := Tokens(strings.Repeat(part, api.MaxText/len(part)))
		if len(l) != count || pos != (api.Pos{}) || e != api.OK {
			t.Errorf("a text of %q that just fits: %d tokens, %v, %d", part, len(l), pos, e)
		}
	}
}

// Every byte alone is blank, a token, or an error; the lists here are those of the chapter.
func TestP1_4TokensOfBytes(t *testing.T) {
	for b := range 256 {
		s := string([]byte{byte(b)})
		var want []api.Token
		switch {
		case strings.Contains(" \t#", s):
			want = []api.Token{end(1, 2)}
		case s == "\n":
			want = []api.Token{newline(1, 1), end(2, 1)}
		case strings.Contains("-+:,;/=()<>*", s):
			want = []api.Token{sym(s, 1, 1), end(1, 2)}
		case strings.Contains("0123456789", s):
			want = []api.Token{num(s, 1, 1), end(1, 2)}
		case strings.Contains("abcdefghijklmnopqrstuvwxyzABCDEFGHIJKLMNOPQRSTUVWXYZ", s):
			want = []api.Token{name(s, 1, 1), end(1, 2)}
		}
		l, pos, e := Tokens(s)
		if want == nil && (l != nil || pos != at(1, 1) || e != api.ErrForm) || want != nil && (!slices.Equal(l, want) || pos != (api.Pos{}) || e != api.OK) {
			t.Errorf("Tokens(%q) = %v, %v, %d", s, l, pos, e)
		}
	}
}

// forms are what a line may have one after the other; the kind 0 is blank.
var forms = []struct {
	kind int
	form *regexp.Regexp
}{
	{0, regexp.MustCompile(`^(?:[ \t]+|#.*)`)},
	{api.TokName, regexp.MustCompile(`^[a-zA-Z][a-zA-Z0-9_]*`)},
	{api.TokNumber, regexp.MustCompile(`^[0-9]+(?:\.[0-9]+)?`)},
	{api.TokSymbol, regexp.MustCompile(`^(?:[><:]=|[-+:,;/=()<>*])`)},
}

// tokensByForm reads a text of one line by one regular expression after the other.
func tokensByForm(s string) ([]api.Token, api.Pos, api.Errno) {
	var list []api.Token
	done := 0
next:
	for done < len(s) {
		for _, f := range forms {
			if text := f.form.FindString(s[done:]); text != "" {
				if f.kind != 0 {
					list = append(list, api.Token{Kind: f.kind, Text: text, At: at(1, done+1)})
				}
				done += len(text)
				continue next
			}
		}
		return nil, at(1, done+1), api.ErrForm
	}
	return append(list, end(1, done+1)), api.Pos{}, api.OK
}

func TestP1_4TokensOfAllShort(t *testing.T) {
	words("a_1.:>= #", 4, func(s string) {
		want, wantPos, wantErr := tokensByForm(s)
		if l, pos, e := Tokens(s); !slices.Equal(l, want) || pos != wantPos || e != wantErr {
			t.Errorf("Tokens(%q) = %v, %v, %d; want %v, %v, %d", s, l, pos, e, want, wantPos, wantErr)
		}
	})
}

func TestP1_5IsName(t *testing.T) {
	for s, want := range map[string]bool{
		"a": true, "Z": true, "a_": true, "a_1": true, "g1": true, "aB9_": true, "abcdefghijklmnopqrst": true, "a2345678901234567890": true, "a___________________": true,
		"": false, "_": false, "_a": false, "1": false, "1a": false, "-a": false, "a-b": false, "a b": false, " a": false, "a ": false, "a\n": false, "a#": false, "#": false, "a.b": false,
		"\u00e9": false, "a\u00e9": false, "a\x00": false, "\xff": false, "abcdefghijklmnopqrstu": false, "a23456789012345678901": false, ":=": false, "\n": false,
	} {
		if IsName(s) != want {
			t.Errorf("IsName(%q) is not %t", s, want)
		}
	}
	if IsName(strings.Repeat("a", 1<<20)) {
		t.Error("a long word is a name")
	}
	form := regexp.MustCompile(`^[a-zA-Z][a-zA-Z0-9_]{0,19}$`)
	for b := range 256 {
		for _, s := range []string{string([]byte{byte(b)}), string([]byte{'a', byte(b)}), string([]byte{byte(b), 'a'}), string([]byte{'a', byte(b), 'a'})} {
			if IsName(s) != (form.MatchString(s) && !strings.HasSuffix(s, "\n")) {
				t.Errorf("IsName(%q) is %t", s, IsName(s))
			}
		}
	}
}

// plain returns the tokens without their positions, which blanks move.
func plain(list []api.Token) []api.Token {
	list = slices.Clone(list)
	for i := range list {
		list[i].At = api.Pos{}
	}
	return list
}

func TestP1_6TokensAreReadBack(t *testing.T) {
	count := 0
	words("aZ_10.:<>=- \t#", 5, func(s string) {
		l, _, e := Tokens(s)
		if e != api.OK {
			return
		}
		count++
		var texts []string
		for _, x := range l {
			texts = append(texts, x.Text)
		}
		line := strings.Join(texts, " ")
		if again, _, e := Tokens(line); e != api.OK || !slices.Equal(plain(again), plain(l)) {
			t.Errorf("Tokens(%q) = %v, %d; want %v, as of %q", line, again, e, l, s)
		}
	})
	if count == 0 {
		t.Error("no text has tokens")
	}
}

func TestP1TokensShareNothing(t *testing.T) {
	a, _, _ := Tokens("a b")
	b, _, _ := Tokens("a b")
	a[0].Text = "c"
	if b[0].Text != "a" {
		t.Error("two calls share their tokens")
	}
}
