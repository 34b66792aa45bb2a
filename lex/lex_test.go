package lex_test

import (
	"math"
	"regexp"
	"slices"
	"strings"
	"testing"

	"gantry/api"
	"gantry/lex"
)

const (
	signs    = "ABCDEFGHIJKLMNOPQRSTUVWXYZabcdefghijklmnopqrstuvwxyz0123456789~!@$%^&*_-+=<>.?/"
	white    = " \t\n\r"
	reserved = "_ ! as let exists forall match par"
)

func rep(s string, n int) string { return strings.Repeat(s, n) }

// inBars tells whether c may stand in a name.
func inBars(c byte) bool {
	return (c >= 0x20 && c <= 0x7E || strings.IndexByte(white, c) >= 0) && c != '|' && c != '\\'
}

// The chapter's words, as patterns: what is skipped, and what tokens are. A
// numeral, a name, and a keyword are told apart behind the run of signs.
var (
	skipped = regexp.MustCompile(`^([ \t\r\n]|;[^\n]*)*`)
	run     = regexp.MustCompile(`^[A-Za-z0-9~!@$%^&*_\-+=<>.?/]+`)
	numeral = regexp.MustCompile(`^(0|[1-9][0-9]*)$`)
	barred  = regexp.MustCompile(`^\|([ -\[\]-{}~\t\n\r]*)\|`)
)

// skip is Skip, as P2.2 says it.
func skip(s string, at int) int {
	at = max(0, min(at, len(s)))
	return at + len(skipped.FindString(s[at:]))
}

// next is Next, as P2.2 says it.
func next(s string, at int) (api.Token, bool, api.Errno) {
	at = skip(s, at)
	rest := s[at:]
	if rest == "" {
		return api.Token{}, false, api.OK
	}
	t := api.Token{Kind: -1, At: at}
	if rest[0] == '(' {
		t.Kind, t.End = api.TkOpen, at+1
	} else if rest[0] == ')' {
		t.Kind, t.End = api.TkClose, at+1
	} else if m := run.FindString(rest); m != "" && (m[0] < '0' || m[0] > '9') {
		t.Kind, t.Text, t.End = api.TkName, m, at+len(m)
	} else if numeral.MatchString(m) {
		t.Kind, t.Text, t.End = api.TkNum, m, at+len(m)
	} else if m := barred.FindStringSubmatch(rest); m != nil {
		t.Kind, t.Text, t.End = api.TkName, m[1], at+len(m[0])
	} else if m := run.FindString(rest[1:]); rest[0] == ':' && m != "" {
		t.Kind, t.Text, t.End = api.TkKey, m, at+1+len(m)
	}
	if t.Kind < 0 || len(t.Text) > 100 {
		return api.Token{At: at}, false, api.ErrLex
	}
	return t, true, api.OK
}

// hold holds Skip and Next at each place of s, and All, against the words.
func hold(t *testing.T, s string) {
	t.Helper()
	for at := -1; at <= len(s)+1; at++ {
		if n := lex.Skip(s, at); n != skip(s, at) {
			t.Fatalf("Skip %q %d: %d", s, at, n)
		}
		x, ok, e := lex.Next(s, at)
		if y, want, f := next(s, at); x != y || ok != want || e != f {
			t.Fatalf("Next %q %d: %v %v %v", s, at, x, ok, e)
		}
	}
	var want []api.Token
	end, x, ok, f := len(s), api.Token{}, true, api.OK
	for at := 0; ok; at = x.End {
		if x, ok, f = next(s, at); ok {
			want = append(want, x)
		} else if f != api.OK {
			end = x.At
		}
	}
	if l, at, e := lex.All(s); !slices.Equal(l, want) || at != end || e != f {
		t.Fatalf("All %q: %v %d %v", s, l, at, e)
	}
}

// P2.1: each byte.
func TestSign(t *testing.T) {
	if len(signs) != 79 {
		t.Fatal(len(signs))
	}
	for c := range 256 {
		if lex.Sign(byte(c)) != (strings.IndexByte(signs, byte(c)) >= 0) {
			t.Errorf("%q", byte(c))
		}
	}
}

// P2.1: the eight that are reserved, and what is near to them.
func TestReserved(t *testing.T) {
	for s := range strings.FieldsSeq(reserved) {
		if !lex.Reserved(s) || !lex.May(s) || lex.Plain(s) || lex.Quote(s) != s {
			t.Error(s)
		}
	}
	for _, s := range []string{"", " ", "__", "!!", "a", "s", "ass", "As", "AS", "le", "lets", "LET", "Let", "exist", "for", "forall ", " par", "|let|", "let\x00", "matc", "true", "and", "not", "Bool", "Int", "(", reserved} {
		if lex.Reserved(s) {
			t.Errorf("%q", s)
		}
	}
}

// P2.1: names that may be, those that are plain, and how they are quoted.
func TestNames(t *testing.T) {
	for s, want := range map[string]struct {
		may, plain bool
		quote      string
	}{
		"a":     {true, true, "a"},
		"A1":    {true, true, "A1"},
		"-":     {true, true, "-"},
		"-1":    {true, true, "-1"},
		"=>":    {true, true, "=>"},
		".":     {true, true, "."},
		"and":   {true, true, "and"},
		"Bool":  {true, true, "Bool"},
		"lets":  {true, true, "lets"},
		"Let":   {true, true, "Let"},
		signs:   {true, true, signs},
		"":      {true, false, "||"},
		"0":     {true, false, "|0|"},
		"007":   {true, false, "|007|"},
		"1a":    {true, false, "|1a|"},
		"9~":    {true, false, "|9~|"},
		" ":     {true, false, "| |"},
		"a b":   {true, false, "|a b|"},
		"a\n":   {true, false, "|a\n|"},
		white:   {true, false, "|" + white + "|"},
		":k":    {true, false, "|:k|"},
		"a;b":   {true, false, "|a;b|"},
		"(a)":   {true, false, "|(a)|"},
		"let a": {true, false, "|let a|"},
		// those that may not be are quoted, too
		"|":      {false, false, "|||"},
		"|a|":    {false, false, "||a||"},
		`\`:      {false, false, `|\|`},
		`a\b`:    {false, false, `|a\b|`},
		"a\x00":  {false, false, "|a\x00|"},
		"\x1f":   {false, false, "|\x1f|"},
		"\v":     {false, false, "|\v|"},
		"\x7f":   {false, false, "|\x7f|"},
		"é":      {false, false, "|é|"},
		"\xff":   {false, false, "|\xff|"},
		"a\x80b": {false, false, "|a\x80b|"},
	} {
		if lex.May(s) != want.may || lex.Plain(s) != want.plain || lex.Quote(s) != want.quote {
			t.Errorf("%q: %v %v %q", s, lex.May(s), lex.Plain(s), lex.Quote(s))
		}
	}
}

// P2.1: 100 bytes may be, 101 may not, whatever they are.
func TestNamesLong(t *testing.T) {
	for _, c := range []string{"a", "~", "0", " ", "\n", ";", "(", "_"} {
		plain := strings.Contains("a~_", c)
		for _, n := range []int{99, 100, 101, 102, 200, 1 << 16} {
			s, quote := rep(c, n), "|"+rep(c, n)+"|"
			if plain && n <= 100 {
				quote = s
			}
			if lex.May(s) != (n <= 100) || lex.Plain(s) != (plain && n <= 100) || lex.Quote(s) != quote {
				t.Errorf("%d of %q: %v %v", n, c, lex.May(s), lex.Plain(s))
			}
		}
	}
	// bytes are counted, not runes; the last one is looked at
	if lex.May(rep("é", 50)) || lex.May(rep("a", 99)+"|") || lex.Plain(rep("a", 99)+" ") {
		t.Error("the last byte")
	}
}

// P2.1: each byte, alone, ahead of a sign and behind one.
func TestNamesBytes(t *testing.T) {
	for b := range 256 {
		c := byte(b)
		sign := strings.IndexByte(signs, c) >= 0
		digit := c >= '0' && c <= '9'
		for i, s := range []string{string([]byte{c}), string([]byte{c, 'a'}), string([]byte{'a', c})} {
			plain := sign && (i == 2 || !digit) && s != "_" && s != "!" && s != "as"
			quote := "|" + s + "|"
			if plain || s == "_" || s == "!" || s == "as" {
				quote = s
			}
			if lex.May(s) != inBars(c) || lex.Plain(s) != plain || lex.Quote(s) != quote {
				t.Errorf("%q: %v %v %q", s, lex.May(s), lex.Plain(s), lex.Quote(s))
			}
		}
	}
}

// P2.2: white space, comments, and places out of the text.
func TestSkip(t *testing.T) {
	for _, c := range []struct {
		s        string
		at, want int
	}{
		{"", 0, 0}, {"", -1, 0}, {"", 1, 0}, {"", math.MinInt, 0}, {"", math.MaxInt, 0},
		{"a", 0, 0}, {"a", 1, 1}, {"a", -7, 0}, {"a", 2, 1}, {"a", math.MinInt, 0}, {"a", math.MaxInt, 1},
		{" \t\r\na", 0, 4}, {" \t\r\na", 2, 4}, {" \t\r\na", -3, 4}, {" \t\r\n", 0, 4}, {"  a", math.MinInt, 2},
		{"\va", 0, 0}, {"\fa", 0, 0}, {"\x00", 0, 0}, {"\u00a0", 0, 0}, {"\u2028", 0, 0},
		{"; a", 0, 3}, {";", 0, 1}, {";\n", 0, 2}, {";\na", 0, 2}, {";a\rb\nc", 0, 5}, {"; a\n ;b\n;\n\n c", 0, 12},
		{";;a\n;(|\nb", 0, 8}, {";\\\n\x80", 0, 3}, {";\x80\xff\x00\nb", 0, 5}, {";é\nb", 0, 4}, {"a;b", 0, 0}, {"a;b", 1, 3},
		{"; a\nb ; c", 0, 4}, {"; a\nb ; c", 5, 9}, {"\n;", 0, 2},
		{rep(" ", 1<<16) + "a", 0, 1 << 16}, {";" + rep("x", 1<<16), 0, 1<<16 + 1}, {rep(";\n", 1<<15) + ")", 0, 1 << 16},
	} {
		if n := lex.Skip(c.s, c.at); n != c.want {
			t.Errorf("%.20q %d: %d, not %d", c.s, c.at, n, c.want)
		}
	}
}

// P2.2: each kind of token, where it begins, and where it ends.
func TestNext(t *testing.T) {
	a100 := rep("a", 100)
	for _, c := range []struct {
		s    string
		at   int
		want api.Token
	}{
		{"(a", 0, api.Token{Kind: api.TkOpen, At: 0, End: 1}},
		{"(a", math.MinInt, api.Token{Kind: api.TkOpen, At: 0, End: 1}},
		{" )(", 0, api.Token{Kind: api.TkClose, At: 1, End: 2}},
		{"(a", 1, api.Token{Kind: api.TkName, Text: "a", At: 1, End: 2}},
		{"(abc)", 2, api.Token{Kind: api.TkName, Text: "bc", At: 2, End: 4}}, // from at on, whatever is ahead
		{"; c\n a-1;", 0, api.Token{Kind: api.TkName, Text: "a-1", At: 5, End: 8}},
		{"->x:y", 0, api.Token{Kind: api.TkName, Text: "->x", At: 0, End: 3}},
		{"-1", 0, api.Token{Kind: api.TkName, Text: "-1", At: 0, End: 2}},
		{"a|b|", 0, api.Token{Kind: api.TkName, Text: "a", At: 0, End: 1}},
		{"a#", 0, api.Token{Kind: api.TkName, Text: "a", At: 0, End: 1}},
		{"let", 0, api.Token{Kind: api.TkName, Text: "let", At: 0, End: 3}},
		{"|let|", 0, api.Token{Kind: api.TkName, Text: "let", At: 0, End: 5}},
		{"||", 0, api.Token{Kind: api.TkName, At: 0, End: 2}},
		{"|||", 0, api.Token{Kind: api.TkName, At: 0, End: 2}},
		{"|a b|c", 0, api.Token{Kind: api.TkName, Text: "a b", At: 0, End: 5}},
		{"|a;b(\n\t\r)|", 0, api.Token{Kind: api.TkName, Text: "a;b(\n\t\r)", At: 0, End: 10}},
		{"|7|", 0, api.Token{Kind: api.TkName, Text: "7", At: 0, End: 3}},
		{"|:k|", 0, api.Token{Kind: api.TkName, Text: ":k", At: 0, End: 4}},
		{"0", 0, api.Token{Kind: api.TkNum, Text: "0", At: 0, End: 1}},
		{"0)", 0, api.Token{Kind: api.TkNum, Text: "0", At: 0, End: 1}},
		{"0|a|", 0, api.Token{Kind: api.TkNum, Text: "0", At: 0, End: 1}},
		{"10:k", 0, api.Token{Kind: api.TkNum, Text: "10", At: 0, End: 2}},
		{"1;2", 0, api.Token{Kind: api.TkNum, Text: "1", At: 0, End: 1}},
		{"007", 2, api.Token{Kind: api.TkNum, Text: "7", At: 2, End: 3}},
		{"4611686018427387905", 0, api.Token{Kind: api.TkNum, Text: "4611686018427387905", At: 0, End: 19}}, // above Most: a token all the same
		{":k", 0, api.Token{Kind: api.TkKey, Text: "k", At: 0, End: 2}},
		{":1", 0, api.Token{Kind: api.TkKey, Text: "1", At: 0, End: 2}},
		{":007a!", 0, api.Token{Kind: api.TkKey, Text: "007a!", At: 0, End: 6}},
		{":a:b", 0, api.Token{Kind: api.TkKey, Text: "a", At: 0, End: 2}},
		{":let ", 0, api.Token{Kind: api.TkKey, Text: "let", At: 0, End: 4}},
		{a100, 0, api.Token{Kind: api.TkName, Text: a100, At: 0, End: 100}},
		{"|" + a100 + "|", 0, api.Token{Kind: api.TkName, Text: a100, At: 0, End: 102}},
		{"|" + rep(" ", 100) + "|", 0, api.Token{Kind: api.TkName, Text: rep(" ", 100), At: 0, End: 102}},
		{":" + a100, 0, api.Token{Kind: api.TkKey, Text: a100, At: 0, End: 101}},
		{rep("9", 100), 0, api.Token{Kind: api.TkNum, Text: rep("9", 100), At: 0, End: 100}},
		{rep("a", 101), 1, api.Token{Kind: api.TkName, Text: a100, At: 1, End: 101}},
	} {
		if x, ok, e := lex.Next(c.s, c.at); !ok || e != api.OK || x != c.want {
			t.Errorf("%q %d: %v %v %v, not %v", c.s, c.at, x, ok, e, c.want)
		}
	}
}

// P2.2: at the end there is no token, and no error.
func TestNextEnd(t *testing.T) {
	for _, s := range []string{"", " ", white, ";", "; a", ";\n", " ;(\n;|", "a"} {
		for _, at := range []int{len(s), len(s) + 1, math.MaxInt} {
			if x, ok, e := lex.Next(s, at); ok || e != api.OK || x != (api.Token{}) {
				t.Errorf("%q %d: %v %v %v", s, at, x, ok, e)
			}
		}
		if s == "a" {
			continue
		}
		for _, at := range []int{math.MinInt, -1, 0} {
			if x, ok, e := lex.Next(s, at); ok || e != api.OK || x != (api.Token{}) {
				t.Errorf("%q %d: %v %v %v", s, at, x, ok, e)
			}
		}
		if l, at, e := lex.All(s); len(l) != 0 || at != len(s) || e != api.OK {
			t.Errorf("%q: %v %d %v", s, l, at, e)
		}
	}
}

// P2.2: where no token begins; of it At alone is told.
func TestNextNone(t *testing.T) {
	for _, s := range []string{
		"007", "00", "01", "1a", "0a", "0x10", "1.0", "1_", "1-", "10/", "0!",
		":", ": k", ":|k|", ":(", "::k", ":\x80", ":;",
		"|", "|a", "|a\nb", "|;", `|a\b|`, `|\|`, `|\||`, "|\x00|", "|a\x1f|", "|\v|", "|\x7f|", "|\x80|", "|é|", "|\xff|",
		"#", "#b1", `"a"`, "'", "[", "]", "{", "}", ",", "`", `\`, "\x00", "\v", "\f", "\x7f", "\x80", "é", "\xff", "\u00a0",
		rep("a", 101), "|" + rep("a", 101) + "|", "|" + rep("\n", 101) + "|", ":" + rep("a", 101), rep("1", 101), "1" + rep("0", 100),
		rep("a", 1<<16), rep("1", 1<<16), ":" + rep("1", 1<<16), "|" + rep("a", 1<<16), "|" + rep("a", 1<<16) + "|",
	} {
		for _, lead := range []struct {
			text         string
			from, tokens int
		}{{"", 0, 0}, {" ", 0, 0}, {"; c |\n\t", 0, 0}, {"( a ", 3, 2}} {
			all, at := lead.text+s, len(lead.text)
			if x, ok, e := lex.Next(all, lead.from); ok || e != api.ErrLex || x != (api.Token{At: at}) {
				t.Errorf("%.30q: %v %v %v", all, x, ok, e)
			}
			if l, n, e := lex.All(all); n != at || e != api.ErrLex || len(l) != lead.tokens {
				t.Errorf("%.30q: %v %d %v", all, l, n, e)
			}
		}
	}
	for at := range 2 { // 07 is none either
		if x, ok, e := lex.Next("007", at); ok || e != api.ErrLex || x != (api.Token{At: at}) {
			t.Error(at, x, ok, e)
		}
	}
}

// P2.2: all tokens; those ahead of one that is none.
func TestAll(t *testing.T) {
	const s = "(a |b c| 7 :k)"
	want := []api.Token{
		{Kind: api.TkOpen, At: 0, End: 1},
		{Kind: api.TkName, Text: "a", At: 1, End: 2},
		{Kind: api.TkName, Text: "b c", At: 3, End: 8},
		{Kind: api.TkNum, Text: "7", At: 9, End: 10},
		{Kind: api.TkKey, Text: "k", At: 11, End: 13},
		{Kind: api.TkClose, At: 13, End: 14},
	}
	for behind, end := range map[string]int{"": 14, " ": 15, ";": 15, "\n; c": 18} {
		if l, at, e := lex.All(s + behind); !slices.Equal(l, want) || at != end || e != api.OK {
			t.Errorf("%q: %v %d %v", behind, l, at, e)
		}
	}
	for behind, end := range map[string]int{"007": 14, " 1a )": 15, "; (\n| x": 18, "# (": 14, ":": 14} {
		if l, at, e := lex.All(s + behind); !slices.Equal(l, want) || at != end || e != api.ErrLex {
			t.Errorf("%q: %v %d %v", behind, l, at, e)
		}
	}
	if l, at, e := lex.All(rep("(", 1<<16)); len(l) != 1<<16 || at != 1<<16 || e != api.OK {
		t.Error(len(l), at, e)
	}
}

// P2.2: each byte, as a token's first one, behind another, in bars, in a comment.
func TestBytes(t *testing.T) {
	for b := range 256 {
		c := string([]byte{byte(b)})
		for _, s := range []string{c, c + "a", c + "1", c + c, "a" + c, "1" + c, "0" + c, ":" + c, ":k" + c, "|" + c, "|" + c + "|", "|a" + c + "b|", ";" + c, ";" + c + "a\n)", "(" + c + ")", " " + c + " a"} {
			hold(t, s)
		}
	}
}

// P2.2: each text of up to five of the bytes that matter.
func TestShort(t *testing.T) {
	const letters = "(|:;\n 01a\\\x80"
	l := []string{""}
	for range 5 {
		var longer []string
		for _, s := range l {
			hold(t, s)
			for i := range len(letters) {
				longer = append(longer, s+letters[i:i+1])
			}
		}
		l = longer
	}
	for _, s := range l {
		hold(t, s)
	}
}

// P2.2: lengths about 100, of each kind that has one, and what may stand behind.
func TestLong(t *testing.T) {
	for n := 98; n <= 103; n++ {
		for _, behind := range []string{"", " ", ")", "|", "|a|", ":k", "\x80"} {
			for _, s := range []string{rep("x", n), rep("5", n), ":" + rep("x", n), "|" + rep("x", n) + "|", "|" + rep(";", n), "0" + rep("0", n-1), "1" + rep("x", n-1)} {
				hold(t, s+behind)
				hold(t, " ("+s+behind)
			}
		}
	}
}

// R3, R4: an answer is new, and the same again.
func TestAllNew(t *testing.T) {
	const s = "(a b) #"
	l, _, _ := lex.All(s)
	was := slices.Clone(l)
	l[0].Text = "gone"
	l = append(l[:1], api.Token{Text: "gone"})
	if m, at, e := lex.All(s); !slices.Equal(m, was) || at != 6 || e != api.ErrLex {
		t.Error(m, at, e, l)
	}
}

// P2.3: tokens stand one behind the other, white space and comments between;
// Next of a token's text is it.
func TestTokensStand(t *testing.T) {
	pieces := []string{"(", ")", "a", "|a b|", "||", "|;|", "|let|", "let", "0", "70", ":k", ":0", "->", rep("b", 100), "|" + rep("(", 100) + "|"}
	gaps := []string{" ", "\n", "\t\r", ";\n", " ; ( | \"\n ", ";;\n\n"}
	seed := 1
	for range 500 {
		s := ""
		var want []string
		for range 12 {
			seed = (seed*1103515245 + 12345) & (1<<31 - 1)
			p := pieces[seed>>8%len(pieces)]
			s += p + gaps[seed>>16%len(gaps)]
			want = append(want, p)
		}
		l, at, e := lex.All(s)
		if len(l) != len(want) || at != len(s) || e != api.OK {
			t.Fatalf("%q: %v %d %v", s, l, at, e)
		}
		end := 0
		for i, x := range l {
			if x.At < end || x.End <= x.At || lex.Skip(s, end) != x.At || s[x.At:x.End] != want[i] {
				t.Fatalf("%q: %v behind %d", s, x, end)
			}
			end = x.End
			y, ok, e := lex.Next(want[i], 0)
			if !ok || e != api.OK || y.Kind != x.Kind || y.Text != x.Text || y.At != 0 || y.End != x.End-x.At {
				t.Fatalf("%q: %v, alone %v", s, x, y)
			}
		}
		if lex.Skip(s, end) != len(s) {
			t.Fatalf("%q: %d", s, end)
		}
	}
}

// P2.3: a name's Quote is read as that name, if it may be and is not reserved;
// where it may not be, it is not.
func TestQuoteIsRead(t *testing.T) {
	names := []string{"", "a", "a b", "1a", "007", "0", ":k", ";c", "; c\n", "(", ")", "-", white, " a ", signs, rep("a", 100), rep("1", 100), rep("\n", 100)}
	for b := range 256 {
		c := string([]byte{byte(b)})
		names = append(names, c, c+"a", "a"+c, "1"+c, c+c+c, " "+c)
	}
	names = append(names, rep("a", 101), rep(" ", 101), rep("a", 1000), `\`, "|", "a|b|c", "é")
	for _, s := range names {
		q := lex.Quote(s)
		x, ok, e := lex.Next(q, 0)
		same := ok && e == api.OK && x == api.Token{Kind: api.TkName, Text: s, End: len(q)}
		if !lex.Reserved(s) && same != lex.May(s) {
			t.Errorf("%q %q: %v %v %v", s, q, x, ok, e)
		}
	}
	// a reserved one has its Quote without bars, and bars make a name of it
	for s := range strings.FieldsSeq(reserved) {
		for _, q := range []string{lex.Quote(s), "|" + s + "|"} {
			if x, ok, e := lex.Next(q, 0); !ok || e != api.OK || x.Kind != api.TkName || x.Text != s || x.End != len(q) {
				t.Error(q, x, ok, e)
			}
		}
	}
}
