package lexer_test

import (
	"fmt"
	"math/rand/v2"
	"regexp"
	"slices"
	"strings"
	"testing"

	"intrusion/api"
	"intrusion/lexer"
)

const (
	letters   = "abcdefghijklmnopqrstuvwxyzABCDEFGHIJKLMNOPQRSTUVWXYZ"
	digits    = "0123456789"
	nameBytes = letters + digits + "_"
	wordBytes = nameBytes + ".:/"
)

func marks() []string {
	return []string{"(", ")", "[", "]", "{", "}", ",", ";", "!", "=", "<", ">", "&", "+", "->", "<>", "<="}
}

// source returns pseudo random numbers, the same ones in every run.
func source(seed uint64) *rand.Rand { return rand.New(rand.NewPCG(seed, 0)) }

func mixed(r *rand.Rand, alphabet string, n int) string {
	b := make([]byte, n)
	for k := range b {
		b[k] = alphabet[r.IntN(len(alphabet))]
	}
	return string(b)
}

func allBytes() string {
	b := make([]byte, 256)
	for k := range b {
		b[k] = byte(k)
	}
	return string(b)
}

func word(s string, at int) api.Token     { return api.Token{Kind: api.TkWord, Text: s, At: at} }
func variable(s string, at int) api.Token { return api.Token{Kind: api.TkVar, Text: s, At: at} }
func content(s string, at int) api.Token  { return api.Token{Kind: api.TkString, Text: s, At: at} }
func mark(s string, at int) api.Token     { return api.Token{Kind: api.TkMark, Text: s, At: at} }
func end(at int) api.Token                { return api.Token{Kind: api.TkEnd, At: at} }

func expectTokens(t *testing.T, s string, want ...api.Token) {
	t.Helper()
	if l, err, at := lexer.Scan(s); err != api.OK || at != 0 || !slices.Equal(l, want) {
		t.Errorf("Scan(%q) = %#v, %v, %d, want %#v", s, l, err, at, want)
	}
}

// expectError checks the errors of both functions that scan a text.
func expectError(t *testing.T, s string, want api.Errno, wantAt int) {
	t.Helper()
	if l, err, at := lexer.Scan(s); len(l) != 0 || err != want || at != wantAt {
		t.Errorf("Scan(%.100q) = %#v, %v, %d, want %v, %d", s, l, err, at, want, wantAt)
	}
	if c, err, at := lexer.NewCursor(s); c != nil || err != want || at != wantAt {
		t.Errorf("NewCursor(%.100q) = %v, %v, %d, want nil, %v, %d", s, c, err, at, want, wantAt)
	}
}

// P4.1

func TestScanExamples(t *testing.T) {
	expectTokens(t, "a=$B", word("a", 0), mark("=", 1), variable("B", 2), end(4))
	expectError(t, "a - b", api.ErrSyntax, 2)
	expectTokens(t, `alert tcp "a|0d 0a|\"" -> any # remark`,
		word("alert", 0), word("tcp", 6), content("a\r\n\"", 10), mark("->", 23), word("any", 26), end(38))
	expectTokens(t, `alert tcp any any -> $WEB [80,8080:8090] { msg "x"; sid 1; content "evil"; within<=4; }`,
		word("alert", 0), word("tcp", 6), word("any", 10), word("any", 14), mark("->", 18), variable("WEB", 21),
		mark("[", 26), word("80", 27), mark(",", 29), word("8080:8090", 30), mark("]", 39), mark("{", 41),
		word("msg", 43), content("x", 47), mark(";", 50), word("sid", 52), word("1", 56), mark(";", 57),
		word("content", 59), content("evil", 67), mark(";", 73), word("within", 75), mark("<=", 81), word("4", 83), mark(";", 84),
		mark("}", 86), end(87))
}

func TestWhiteSpaceAndCommentsHaveNoOtherMeaning(t *testing.T) {
	for _, s := range []string{"", " ", "\t", "\n", "\r", " \t\r\n \n", "#", "# a \"$- |\\ \x00\xff", "#\n", "#a\n#b\n", " # \r a\t", "##\n\r#"} {
		expectTokens(t, s, end(len(s)))
		expectTokens(t, s+"\na", word("a", len(s)+1), end(len(s)+2))
		expectTokens(t, "a"+s, word("a", 0), end(1+len(s)))
		expectTokens(t, "a"+s+"\nb", word("a", 0), word("b", len(s)+2), end(len(s)+3))
	}
	for _, c := range []string{" ", "\t", "\n", "\r"} {
		expectTokens(t, "a"+c+"b", word("a", 0), word("b", 2), end(3))
		expectTokens(t, "<"+c+">", mark("<", 0), mark(">", 2), end(3))
		expectTokens(t, c+c+"a", word("a", 2), end(3))
		expectError(t, "$"+c+"a", api.ErrName, 0)
		expectError(t, "-"+c+">", api.ErrSyntax, 0)
	}
}

func TestCommentEndsAtLineFeedOnly(t *testing.T) {
	expectTokens(t, "a#b\nc", word("a", 0), word("c", 4), end(5))
	expectTokens(t, "a#b\rc", word("a", 0), end(5))
	expectTokens(t, "a#b\r\nc", word("a", 0), word("c", 5), end(6))
	expectTokens(t, "a # b # c\n# d\ne", word("a", 0), word("e", 14), end(15))
	hidden := strings.ReplaceAll(allBytes(), "\n", "")
	expectTokens(t, "a#"+hidden+"\nc", word("a", 0), word("c", 258), end(259))
	expectTokens(t, "\"a#b\" #c", content("a#b", 0), end(8))
}

func TestEveryByteAlone(t *testing.T) {
	for c := range 256 {
		s := string([]byte{byte(c)})
		switch {
		case strings.Contains(" \t\r\n#", s):
			expectTokens(t, s, end(1))
		case strings.Contains(wordBytes, s):
			expectTokens(t, s, word(s, 0), end(1))
		case slices.Contains(marks(), s):
			expectTokens(t, s, mark(s, 0), end(1))
		case s == "$":
			expectError(t, s, api.ErrName, 0)
		case s == "\"":
			expectError(t, s, api.ErrSyntax, 1)
		default:
			expectError(t, s, api.ErrSyntax, 0)
			expectError(t, "ab "+s, api.ErrSyntax, 3)
			expectError(t, "ab"+s+"c", api.ErrSyntax, 2)
		}
	}
}

func TestWords(t *testing.T) {
	for _, s := range []string{"a", "_", ".", ":", "/", "0", "007", "10.0.0.0/8", "2001:db8::1", "any_1.x:/", "a.b", "::", wordBytes[:66], strings.Repeat("a", 80), strings.Repeat("/", 80)} {
		expectTokens(t, s, word(s, 0), end(len(s)))
		expectTokens(t, " "+s+";", word(s, 1), mark(";", len(s)+1), end(len(s)+2))
	}
	for k := range wordBytes {
		s := wordBytes[k : k+1]
		expectTokens(t, s+"x"+s, word(s+"x"+s, 0), end(3))
	}
}

func TestLongWords(t *testing.T) {
	for _, n := range []int{81, 82, 161, 1000, api.MaxText - 3} {
		s := strings.Repeat("a", n)
		expectError(t, s, api.ErrLong, 0)
		expectError(t, "; "+s+";", api.ErrLong, 2)
		expectError(t, s+"-", api.ErrLong, 0)
		expectError(t, "-"+s, api.ErrSyntax, 0)
	}
	expectTokens(t, strings.Repeat("a", 80)+" b", word(strings.Repeat("a", 80), 0), word("b", 81), end(82))
}

func TestVariables(t *testing.T) {
	for _, s := range []string{"a", "Z", "HOME_NET", "a_1", "x9", "a__", "B" + strings.Repeat("_", 31), strings.Repeat("n", 32)} {
		expectTokens(t, "$"+s, variable(s, 0), end(len(s)+1))
		expectTokens(t, "!$"+s+",", mark("!", 0), variable(s, 1), mark(",", len(s)+2), end(len(s)+3))
		expectTokens(t, "$"+s+"$"+s, variable(s, 0), variable(s, len(s)+1), end(2*len(s)+2))
		for _, c := range []string{".", ":", "/"} {
			expectTokens(t, "$"+s+c+"b", variable(s, 0), word(c+"b", len(s)+1), end(len(s)+3))
		}
	}
	expectTokens(t, "a$b", word("a", 0), variable("b", 1), end(3))
}

func TestDollarSignWithoutName(t *testing.T) {
	for _, s := range []string{"", " a", "1", "1a", "_", "_a", "$", "$a", "9", "-", ".a", ":", "\"a\"", "#", "\xe4", "\x00", strings.Repeat("n", 33), strings.Repeat("n", 81), strings.Repeat("n", 32) + "_"} {
		expectError(t, "$"+s, api.ErrName, 0)
		expectError(t, "ab;$"+s, api.ErrName, 3)
		expectError(t, "$"+s+" -", api.ErrName, 0)
	}
}

func TestMarks(t *testing.T) {
	for _, s := range marks() {
		expectTokens(t, s, mark(s, 0), end(len(s)))
		expectTokens(t, "a"+s+"b", word("a", 0), mark(s, 1), word("b", 1+len(s)), end(2+len(s)))
		expectTokens(t, s+" "+s, mark(s, 0), mark(s, len(s)+1), end(2*len(s)+1))
		expectTokens(t, s+"\"\""+s, mark(s, 0), content("", len(s)), mark(s, len(s)+2), end(2*len(s)+2))
	}
}

func TestLongestMark(t *testing.T) {
	expectTokens(t, "<>=", mark("<>", 0), mark("=", 2), end(3))
	expectTokens(t, "<=>", mark("<=", 0), mark(">", 2), end(3))
	expectTokens(t, "<<>", mark("<", 0), mark("<>", 1), end(3))
	expectTokens(t, "<<=", mark("<", 0), mark("<=", 1), end(3))
	expectTokens(t, ">=", mark(">", 0), mark("=", 1), end(2))
	expectTokens(t, "!=", mark("!", 0), mark("=", 1), end(2))
	expectTokens(t, "==", mark("=", 0), mark("=", 1), end(2))
	expectTokens(t, "->>", mark("->", 0), mark(">", 2), end(3))
	expectTokens(t, "<->", mark("<", 0), mark("->", 1), end(3))
	expectTokens(t, ">->", mark(">", 0), mark("->", 1), end(3))
	expectTokens(t, "&&", mark("&", 0), mark("&", 1), end(2))
	expectTokens(t, "a->b", word("a", 0), mark("->", 1), word("b", 3), end(4))
}

func TestMinusSignAlone(t *testing.T) {
	expectError(t, "-", api.ErrSyntax, 0)
	expectError(t, "--", api.ErrSyntax, 0)
	expectError(t, "-->", api.ErrSyntax, 0)
	expectError(t, "->-", api.ErrSyntax, 2)
	expectError(t, "- >", api.ErrSyntax, 0)
	expectError(t, "-1", api.ErrSyntax, 0)
	expectError(t, "a-b", api.ErrSyntax, 1)
	expectError(t, "a -", api.ErrSyntax, 2)
}

func TestStrings(t *testing.T) {
	for _, x := range []struct{ s, want string }{
		{`""`, ""},
		{`" "`, " "},
		{`"a b"`, "a b"},
		{`"$a -> # [1]; '~!"`, "$a -> # [1]; '~!"},
		{`"\\"`, "\\"},
		{`"\""`, "\""},
		{`"\|"`, "|"},
		{`"\"\\\|"`, "\"\\|"},
		{`"|00|"`, "\x00"},
		{`"|0d 0a|"`, "\r\n"},
		{`"|0D 0A fF Ff|"`, "\r\n\xff\xff"},
		{`"|61|"`, "a"},
		{`"|22 5c 7c|"`, "\"\\|"},
		{`"|00||01|"`, "\x00\x01"},
		{`"a|00|b|01 02|c"`, "a\x00b\x01\x02c"},
		{`"\||7c|\|"`, "|||"},
		{`"00 01"`, "00 01"},
	} {
		expectTokens(t, x.s, content(x.want, 0), end(len(x.s)))
		expectTokens(t, "a"+x.s+x.s, word("a", 0), content(x.want, 1), content(x.want, 1+len(x.s)), end(1+2*len(x.s)))
	}
}

func TestEveryByteInString(t *testing.T) {
	for c := range 256 {
		s := string([]byte{byte(c)})
		switch {
		case strings.Contains("\"\\|", s):
			expectTokens(t, `"x\`+s+`y"`, content("x"+s+"y", 0), end(6))
			continue
		case c >= 32 && c <= 126:
			expectTokens(t, `"x`+s+`y"`, content("x"+s+"y", 0), end(5))
		default:
			expectError(t, `"x`+s+`y"`, api.ErrSyntax, 2)
		}
		expectError(t, `"x\`+s+`y"`, api.ErrSyntax, 3)
	}
}

func TestEveryByteInGroup(t *testing.T) {
	for c := range 256 {
		s := string([]byte{byte(c)})
		for _, pair := range []string{fmt.Sprintf("%02x", c), fmt.Sprintf("%02X", c)} {
			expectTokens(t, `"|`+pair+`|"`, content(s, 0), end(6))
			expectTokens(t, `"a|00 `+pair+` ff|b"`, content("a\x00"+s+"\xffb", 0), end(14))
		}
		if !strings.Contains("0123456789abcdefABCDEF", s) {
			expectError(t, `"|`+s+`0|"`, api.ErrSyntax, 2)
			expectError(t, `"|0`+s+`|"`, api.ErrSyntax, 3)
			expectError(t, `"|00 `+s+`0|"`, api.ErrSyntax, 5)
		}
		if s != " " && s != "|" {
			expectError(t, `"|00`+s+`00|"`, api.ErrSyntax, 4)
		}
	}
}

func TestBrokenStrings(t *testing.T) {
	for _, x := range []struct {
		s  string
		at int
	}{
		{`"`, 1}, {`"ab`, 3}, {`"ab "c"`, 7}, {`"ab\`, 4}, {`"ab\"`, 5}, {`"\n"`, 2}, {`"\a`, 2}, {`"\ "`, 2},
		{"\"a\nb\"", 2}, {"\"a\tb\"", 2}, {"\"a\x7f\"", 2}, {"\"\xc3\xa4\"", 1}, {"\"a\r\n", 2}, {"\"\\\n\"", 2},
		{`"|`, 2}, {`"|"`, 2}, {`"||"`, 2}, {`"| 00|"`, 2}, {`"|g0|"`, 2}, {`"|\"`, 2},
		{`"|0`, 3}, {`"|0"`, 3}, {`"|0|"`, 3}, {`"|0 0|"`, 3}, {`"|0g|"`, 3},
		{`"|00`, 4}, {`"|00"`, 4}, {`"|000|"`, 4}, {`"|0000|"`, 4}, {`"|00,01|"`, 4},
		{`"|00 `, 5}, {`"|00 |"`, 5}, {`"|00  01|"`, 5}, {`"|00 "`, 5}, {`"|00 1|"`, 6}, {`"|00 1`, 6},
		{`"|00|`, 5}, {`"|00| |"`, 7},
	} {
		expectError(t, x.s, api.ErrSyntax, x.at)
		expectError(t, "a; "+x.s, api.ErrSyntax, 3+x.at)
	}
}

func TestLongStrings(t *testing.T) {
	for _, x := range []struct{ unit, byte string }{{"a", "a"}, {`\"`, `"`}, {`\\`, `\`}, {`|00|`, "\x00"}, {`|61|`, "a"}} {
		full := strings.Repeat(x.unit, 256)
		expectTokens(t, ` "`+full+`"`, content(strings.Repeat(x.byte, 256), 1), end(len(full)+3))
		for _, long := range []string{full + x.unit, full + full, full + "|00 01|"} {
			expectError(t, `"`+long+`"`, api.ErrLong, 0)
			expectError(t, `a "`+long+`" -`, api.ErrLong, 2)
			// The closing quotation mark is never reached.
			expectError(t, `a "`+long, api.ErrSyntax, 3+len(long))
			expectError(t, `a "`+long+"\n\"", api.ErrSyntax, 3+len(long))
			expectError(t, `a "`+long+`\a"`, api.ErrSyntax, 4+len(long))
		}
	}
	group := "|" + strings.Repeat("ff ", 255) + "ff|"
	expectTokens(t, `"`+group+`"`, content(strings.Repeat("\xff", 256), 0), end(len(group)+2))
	expectError(t, `"`+group+` "`, api.ErrLong, 0)
}

func TestFirstErrorFromLeftToRight(t *testing.T) {
	long := strings.Repeat("a", 81)
	broken := []struct {
		s   string
		err api.Errno
	}{{"-", api.ErrSyntax}, {long, api.ErrLong}, {"$1", api.ErrName}, {"\"" + strings.Repeat("a", 257) + "\"", api.ErrLong}, {"\xff", api.ErrSyntax}}
	for _, x := range broken {
		for _, y := range broken {
			expectError(t, "a; "+x.s+" "+y.s, x.err, 3)
		}
		expectError(t, `a; "\n `+x.s, api.ErrSyntax, 5)
		expectTokens(t, "a; #"+x.s, word("a", 0), mark(";", 1), end(4+len(x.s)))
	}
}

func TestLongTexts(t *testing.T) {
	for _, unit := range []string{" ", ";", "a ", "$x", `""`, "#", "\n"} {
		s := strings.Repeat(unit, api.MaxText/len(unit))
		l, err, at := lexer.Scan(s)
		if err != api.OK || at != 0 || l[len(l)-1] != end(api.MaxText) {
			t.Errorf("a text of %d bytes of %q: %v, %d", len(s), unit, err, at)
		}
		expectError(t, s+" ", api.ErrLong, 0)
	}
	long := strings.Repeat(" ", api.MaxText+1)
	for _, start := range []string{"-", " -", "$1", "\"", strings.Repeat("a", 81)} {
		expectError(t, start+long[len(start):], api.ErrLong, 0)
	}
	expectError(t, strings.Repeat("a;", api.MaxText), api.ErrLong, 0)
}

func TestResultsOfScanAreIndependent(t *testing.T) {
	s := `a "b" $c`
	first, _, _ := lexer.Scan(s)
	c, _, _ := lexer.NewCursor(s)
	clear(first[:cap(first)])
	expectTokens(t, s, word("a", 0), content("b", 2), variable("c", 6), end(8))
	if x := c.Next(); x != word("a", 0) {
		t.Errorf("the cursor is before %v", x)
	}
}

var (
	blank       = regexp.MustCompile(`^([ \t\r\n]|#[^\n]*)+`)
	wordForm    = regexp.MustCompile(`^[a-zA-Z0-9_.:/]+`)
	varForm     = regexp.MustCompile(`^\$[a-zA-Z0-9_]*`)
	nameForm    = regexp.MustCompile(`^[a-zA-Z][a-zA-Z0-9_]{0,31}$`)
	markForm    = regexp.MustCompile(`^(->|<>|<=|[()\[\]{},;!=<>&+])`)
	stringStart = `^"([ !#-\[\]-{}~]|\\["\\|]|\|[0-9a-fA-F]{2}( [0-9a-fA-F]{2})*\|)*`
	stringForm  = regexp.MustCompile(stringStart + `"`)
	// What can be continued to a string.
	stringBegin = regexp.MustCompile(stringStart + `(\\|\|([0-9a-fA-F]{2} )*[0-9a-fA-F]{0,2})?$`)
)

// scanOf is the description of the chapter in regular expressions.
func scanOf(s string) ([]api.Token, api.Errno, int) {
	var l []api.Token
	at := 0
	for {
		at += len(blank.FindString(s[at:]))
		rest := s[at:]
		if rest == "" {
			return append(l, end(at)), api.OK, 0
		}
		if x := wordForm.FindString(rest); x != "" {
			if len(x) > 80 {
				return nil, api.ErrLong, at
			}
			l = append(l, word(x, at))
			at += len(x)
		} else if x := varForm.FindString(rest); x != "" {
			if !nameForm.MatchString(x[1:]) {
				return nil, api.ErrName, at
			}
			l = append(l, variable(x[1:], at))
			at += len(x)
		} else if x := stringForm.FindString(rest); x != "" {
			text := contentOf(x)
			if len(text) > 256 {
				return nil, api.ErrLong, at
			}
			l = append(l, content(text, at))
			at += len(x)
		} else if rest[0] == '"' {
			size := 1
			for size < len(rest) && stringBegin.MatchString(rest[:size+1]) {
				size++
			}
			return nil, api.ErrSyntax, at + size
		} else if x := markForm.FindString(rest); x != "" {
			l = append(l, mark(x, at))
			at += len(x)
		} else {
			return nil, api.ErrSyntax, at
		}
	}
}

var stringPart = regexp.MustCompile(`\\.|\|[^|]*\||.`)

// contentOf returns the content of a string token.
func contentOf(s string) string {
	return stringPart.ReplaceAllStringFunc(s[1:len(s)-1], func(x string) string {
		switch x[0] {
		case '\\':
			return x[1:]
		case '|':
			var text string
			fmt.Sscanf(strings.ReplaceAll(x[1:len(x)-1], " ", ""), "%x", &text)
			return text
		}
		return x
	})
}

func expectScan(t *testing.T, s string) {
	t.Helper()
	l, err, at := lexer.Scan(s)
	if want, wantErr, wantAt := scanOf(s); !slices.Equal(l, want) || err != wantErr || at != wantAt {
		t.Fatalf("Scan(%q) = %#v, %v, %d, want %#v, %v, %d", s, l, err, at, want, wantErr, wantAt)
	}
}

// eachText calls f with all strings of at most n bytes of an alphabet.
func eachText(alphabet string, n int, f func(s string)) {
	var extend func(s string)
	extend = func(s string) {
		f(s)
		if len(s) < n {
			for k := range len(alphabet) {
				extend(s + alphabet[k:k+1])
			}
		}
	}
	extend("")
}

func TestScanOfShortTexts(t *testing.T) {
	eachText("a1_. \n#$\"\\|-<>=;(\xff", 4, func(s string) { expectScan(t, s) })
}

func TestScanOfShortStrings(t *testing.T) {
	eachText("\"\\| 0fgG", 6, func(s string) { expectScan(t, "\""+s) })
}

func TestScanOfMixedTexts(t *testing.T) {
	r := source(4)
	parts := append(marks(), "a", "tcp", "10.0.0.0/8", "$", "$a", "$HOME", "1", " ", " ", " ", "\n", "\r", "\t", "#", "\"", "\"a\"", "\"|00 ff|", "|\"", "\\", "|", "\"x y\"", "-",
		mixed(r, wordBytes, 40), mixed(r, letters, 16), `"`+mixed(r, nameBytes, 120), "\x00", "\x80")
	for range 40000 {
		s := ""
		for range r.IntN(14) {
			s += parts[r.IntN(len(parts))]
		}
		expectScan(t, s)
	}
	for range 10000 {
		expectScan(t, mixed(r, allBytes(), r.IntN(6)))
	}
}

// P4.2

func expectPrint(t *testing.T, want string, l ...api.Token) {
	t.Helper()
	before := slices.Clone(l)
	if s := lexer.Print(l); s != want {
		t.Errorf("Print(%#v) = %q, want %q", l, s, want)
	}
	if !slices.Equal(l, before) {
		t.Errorf("Print changed %#v to %#v", before, l)
	}
}

func TestPrintExample(t *testing.T) {
	l, _, _ := lexer.Scan("x=[1]")
	expectPrint(t, "x = [ 1 ]", l...)
}

func TestPrintOfEachKind(t *testing.T) {
	expectPrint(t, "")
	expectPrint(t, "a.b:/", word("a.b:/", 0))
	expectPrint(t, "$HOME", variable("HOME", 0))
	expectPrint(t, `""`, content("", 0))
	expectPrint(t, `"a b|22 0a|c"`, content("a b\"\nc", 0))
	expectPrint(t, `a $a "a" ( "" -> a`, word("a", 9), variable("a", -1), content("a", 5), mark("(", 5), content("", 5), mark("->", 0), word("a", 1<<60))
	for _, s := range marks() {
		expectPrint(t, s, mark(s, 0))
		expectPrint(t, s+" "+s, mark(s, 0), mark(s, 0))
	}
	for k := range wordBytes {
		expectPrint(t, wordBytes[k:k+1], word(wordBytes[k:k+1], 0))
	}
	long := strings.Repeat("a", 80)
	expectPrint(t, long+" $"+long[:32], word(long, 0), variable(long[:32], 0))
	full := strings.Repeat("\xff", 256)
	expectPrint(t, lexer.Quote(full), content(full, 0))
}

// invalid are tokens that Scan does not return before the end.
func invalid() []api.Token {
	l := []api.Token{
		word("", 0), word(strings.Repeat("a", 81), 0), word("a b", 0), word("a\n", 0), word("-", 0), word("->", 0), word("$a", 0), word("\"a\"", 0), word("(", 0), word("\xe4", 0), word("a#", 0), word("a\x00", 0),
		variable("", 0), variable("1", 0), variable("_a", 0), variable("$a", 0), variable("a.b", 0), variable("a b", 0), variable(strings.Repeat("a", 33), 0), variable("\xe4", 0),
		content(strings.Repeat("a", 257), 0), content(strings.Repeat("\x00", 5000), 0),
		mark("", 0), mark("-", 0), mark("a", 0), mark("==", 0), mark(">=", 0), mark("!=", 0), mark("()", 0), mark(" ", 0), mark("( ", 0), mark("<>=", 0), mark("\"", 0), mark("|", 0), mark("$", 0), mark("#", 0), mark("\xe4", 0),
	}
	for _, kind := range []int{-1, 5, 6, 257, 1 << 40, -1 << 63} {
		for _, s := range []string{"", "a", "(", "\xff"} {
			l = append(l, api.Token{Kind: kind, Text: s})
		}
	}
	return l
}

func TestPrintLeavesOutEndsAndInvalidTokens(t *testing.T) {
	out := append(invalid(), end(0), end(7), api.Token{Kind: api.TkEnd, Text: "a"}, api.Token{Kind: api.TkEnd, Text: "("})
	for _, x := range out {
		expectPrint(t, "", x)
		expectPrint(t, "", x, x)
		expectPrint(t, "a", x, word("a", 0))
		expectPrint(t, "a", word("a", 0), x)
		expectPrint(t, `a "b"`, word("a", 0), x, x, content("b", 0), x)
	}
	expectPrint(t, "", out...)
}

func TestPrintOfLongList(t *testing.T) {
	l := slices.Repeat([]api.Token{word("ab", 0), end(0), mark("<>", 0)}, 50000)
	if s := lexer.Print(l); s != strings.Repeat("ab <> ", 50000)[:299999] {
		t.Errorf("Print returned %d bytes", len(s))
	}
}

// P4.3

func TestQuoteExamples(t *testing.T) {
	for _, x := range []struct{ s, want string }{
		{"a\"\nb", `"a|22 0a|b"`},
		{"", `""`},
		{"a b~", `"a b~"`},
		{"\"", `"|22|"`},
		{"\\", `"|5c|"`},
		{"|", `"|7c|"`},
		{"\"\\|", `"|22 5c 7c|"`},
		{"a\\b|c", `"a|5c|b|7c|c"`},
		{"\x00\x1f \x7f\x80\xff", `"|00 1f| |7f 80 ff|"`},
		{"\r\nab\r\n", `"|0d 0a|ab|0d 0a|"`},
		{"\xab\xcd\xef", `"|ab cd ef|"`},
		{"\xc3\xa4", `"|c3 a4|"`},
		{"$a #x;", `"$a #x;"`},
	} {
		if s := lexer.Quote(x.s); s != x.want {
			t.Errorf("Quote(%q) = %q, want %q", x.s, s, x.want)
		}
	}
}

// quoteOf writes each byte by itself and then joins neighbouring groups.
func quoteOf(s string) string {
	var b strings.Builder
	for k := range len(s) {
		if c := s[k]; c < 32 || c > 126 || strings.IndexByte("\"\\|", c) >= 0 {
			fmt.Fprintf(&b, "|%02x|", c)
		} else {
			b.WriteByte(c)
		}
	}
	return `"` + strings.ReplaceAll(b.String(), "||", " ") + `"`
}

func TestQuoteIsTheDefinition(t *testing.T) {
	r := source(43)
	for range 5000 {
		for _, alphabet := range []string{allBytes(), "a\"\\|\n ", "ab\x00"} {
			s := mixed(r, alphabet, r.IntN(20))
			if got := lexer.Quote(s); got != quoteOf(s) {
				t.Fatalf("Quote(%q) = %q, want %q", s, got, quoteOf(s))
			}
		}
	}
	for c := range 256 {
		s := string([]byte{byte(c)})
		for _, x := range []string{s, s + s, "a" + s + "b", "\n" + s + "\n", s + "a" + s} {
			if got := lexer.Quote(x); got != quoteOf(x) {
				t.Errorf("Quote(%q) = %q, want %q", x, got, quoteOf(x))
			}
		}
	}
}

func TestQuoteOfAnyLength(t *testing.T) {
	for _, n := range []int{256, 257, 5000, 1 << 20} {
		if got := lexer.Quote(strings.Repeat("a", n)); got != `"`+strings.Repeat("a", n)+`"` {
			t.Errorf("Quote of %d plain bytes has %d bytes", n, len(got))
		}
		if got := lexer.Quote(strings.Repeat("\n", n)); got != `"|0a`+strings.Repeat(" 0a", n-1)+`|"` {
			t.Errorf("Quote of %d line feeds has %d bytes", n, len(got))
		}
	}
}

// P4.4

func TestIsName(t *testing.T) {
	for _, s := range []string{"a", "z", "A", "Z", "a1", "a_", "a_1", "HOME_NET", "x" + digits, strings.Repeat("a", 32), "Z" + strings.Repeat("9", 31)} {
		if !lexer.IsName(s) {
			t.Errorf("%q is not a name", s)
		}
	}
	for _, s := range []string{"", "1", "1a", "_", "_a", "$a", "a.b", "a:b", "a/b", "a-b", "a b", " a", "a ", "a\n", "a\x00", "\xe4", "a\xe4", "é", "aé", strings.Repeat("a", 33), strings.Repeat("a", 1000)} {
		if lexer.IsName(s) {
			t.Errorf("%q is a name", s)
		}
	}
}

func TestIsNameOfEveryByte(t *testing.T) {
	for c := range 256 {
		s := string([]byte{byte(c)})
		if got := lexer.IsName(s); got != strings.Contains(letters, s) {
			t.Errorf("IsName(%q) = %v", s, got)
		}
		for _, x := range []string{"a" + s, "a" + s + "b", "Q1_" + s} {
			if got := lexer.IsName(x); got != strings.Contains(nameBytes, s) {
				t.Errorf("IsName(%q) = %v", x, got)
			}
		}
	}
}

// P4.5

func TestNumber(t *testing.T) {
	for _, x := range []struct {
		s    string
		want int
	}{
		{"0", 0}, {"1", 1}, {"9", 9}, {"10", 10}, {"65535", 65535}, {"4294967296", 1 << 32}, {"999999999999", 999999999999},
		{"1000000000000", 1000000000000}, {"1099511627774", 1<<40 - 2}, {"1099511627775", 1<<40 - 1},
	} {
		if n, ok := lexer.Number(x.s); n != x.want || !ok {
			t.Errorf("Number(%q) = %d, %v", x.s, n, ok)
		}
	}
	for n := range 20000 {
		if got, ok := lexer.Number(fmt.Sprint(n)); got != n || !ok {
			t.Fatalf("Number of %d = %d, %v", n, got, ok)
		}
	}
}

func TestNotNumber(t *testing.T) {
	some := []string{"", "00", "01", "007", "000000000000000000001", "-1", "-0", "+1", " 1", "1 ", "1\n", "1.0", "1_0", "0x10", "a", "1a", "a1", "1:2", "1/2", "\xb2", "٣",
		"1099511627776", "1099511627777", "1999999999999", "9999999999999", "10000000000000", "18446744073709551616", "18446744073709551617", strings.Repeat("9", 80), strings.Repeat("1", 100000)}
	for c := range 256 {
		if c < '0' || c > '9' {
			s := string([]byte{byte(c)})
			some = append(some, s, "1"+s, s+"1", "1"+s+"1", "12345678901"+s, "0"+s)
		}
	}
	for _, s := range some {
		if n, ok := lexer.Number(s); n != 0 || ok {
			t.Errorf("Number(%q) = %d, %v", s, n, ok)
		}
	}
}

// P4.6

func cursor(t *testing.T, s string) *lexer.Cursor {
	t.Helper()
	c, err, at := lexer.NewCursor(s)
	if c == nil || err != api.OK || at != 0 {
		t.Fatalf("NewCursor(%q) = %v, %v, %d", s, c, err, at)
	}
	return c
}

func TestNewCursor(t *testing.T) {
	for _, s := range []string{"", " ", "#", "a", "a b;c", `"x" -> $y`} {
		want, _, _ := lexer.Scan(s)
		if x := cursor(t, s).Peek(); x != want[0] {
			t.Errorf("the cursor of %q is before %v", s, x)
		}
	}
	for _, s := range []string{"-", "a - b", "$1", "; $", "\"ab", "a \"\\a\"", strings.Repeat("a", 81), strings.Repeat(" ", api.MaxText+1)} {
		_, err, at := lexer.Scan(s)
		expectError(t, s, err, at)
	}
}

// P4.7

func TestPeekAndNext(t *testing.T) {
	for _, s := range []string{"", "  ", "a", "a b;c", `alert tcp "a|0d 0a|" -> $any # remark`, "((<=<>->"} {
		c := cursor(t, s)
		want, _, _ := lexer.Scan(s)
		for _, x := range want {
			for range 2 {
				if got := c.Peek(); got != x {
					t.Errorf("Peek in %q = %v, want %v", s, got, x)
				}
			}
			if got := c.Next(); got != x {
				t.Errorf("Next in %q = %v, want %v", s, got, x)
			}
		}
		for range 3 {
			if got := c.Next(); got != end(len(s)) {
				t.Errorf("Next at the end of %q = %v", s, got)
			}
			if got := c.Peek(); got != end(len(s)) {
				t.Errorf("Peek at the end of %q = %v", s, got)
			}
		}
	}
}

func TestCursorsAreIndependent(t *testing.T) {
	a, b := cursor(t, "a b c"), cursor(t, "a b c")
	a.Next()
	a.Next()
	if a.Peek() != word("c", 4) || b.Peek() != word("a", 0) {
		t.Errorf("the cursors are before %v and %v", a.Peek(), b.Peek())
	}
}

// P4.8

func expectNext(t *testing.T, c *lexer.Cursor, want api.Token) {
	t.Helper()
	if got := c.Peek(); got != want {
		t.Errorf("the cursor is before %v, not %v", got, want)
	}
}

// expectRefused checks that none of the methods that move only past certain tokens accepts the next one.
func expectRefused(t *testing.T, c *lexer.Cursor, marks, words []string) {
	t.Helper()
	before := c.Peek()
	for _, s := range marks {
		if c.Mark(s) {
			t.Errorf("Mark(%q) before %v", s, before)
		}
	}
	for _, s := range words {
		if c.Word(s) {
			t.Errorf("Word(%q) before %v", s, before)
		}
	}
	if n, ok := c.Int(); n != 0 || ok {
		t.Errorf("Int before %v = %d, %v", before, n, ok)
	}
	expectNext(t, c, before)
}

func TestMark(t *testing.T) {
	for _, s := range marks() {
		c := cursor(t, s+" a")
		others := slices.DeleteFunc(append(marks(), "", "a", " ", s+" ", s+"a", s+" a"), func(x string) bool { return x == s })
		expectRefused(t, c, others, append(marks(), "", "a"))
		if !c.Mark(s) {
			t.Errorf("not Mark(%q)", s)
		}
		expectNext(t, c, word("a", len(s)+1))
	}
}

func TestWord(t *testing.T) {
	for _, s := range []string{"a", "sid", "10.0.0.0/8", "_", ":", "007", "1a", "1099511627776"} {
		c := cursor(t, s+";")
		expectRefused(t, c, []string{s, "", ";", "a"}, []string{"", s + ";", s + " ", s[1:], s + s, strings.ToUpper(s) + "X", ";"})
		if !c.Word(s) {
			t.Errorf("not Word(%q)", s)
		}
		expectNext(t, c, mark(";", len(s)))
	}
	expectRefused(t, cursor(t, "sid"), nil, []string{"SID", "Sid", "si", "sidd"})
}

func TestInt(t *testing.T) {
	for _, x := range []struct {
		s string
		n int
	}{{"0", 0}, {"7", 7}, {"1099511627775", 1<<40 - 1}} {
		c := cursor(t, x.s+" a")
		if n, ok := c.Int(); n != x.n || !ok {
			t.Errorf("Int before %q = %d, %v", x.s, n, ok)
		}
		expectNext(t, c, word("a", len(x.s)+1))
		if c := cursor(t, x.s+" a"); !c.Word(x.s) {
			t.Errorf("not Word(%q)", x.s)
		}
	}
	for _, s := range []string{"a", "00", "007", "1a", "1.0", "1099511627776", "80:90", `"7"`, "$a", "(", "", "#7"} {
		c := cursor(t, s)
		before := c.Peek()
		if n, ok := c.Int(); n != 0 || ok {
			t.Errorf("Int before %q = %d, %v", s, n, ok)
		}
		expectNext(t, c, before)
	}
}

func TestOtherTokensAreRefused(t *testing.T) {
	expectRefused(t, cursor(t, `"a"`), []string{"a", `"a"`, ""}, []string{"a", `"a"`, ""})
	expectRefused(t, cursor(t, `"7"`), []string{"7"}, []string{"7"})
	expectRefused(t, cursor(t, `";"`), []string{";"}, []string{";"})
	expectRefused(t, cursor(t, `""`), []string{""}, []string{""})
	expectRefused(t, cursor(t, "$a"), []string{"a", "$a", "$"}, []string{"a", "$a", "$"})
	for _, s := range []string{"", " ", "# a"} {
		expectRefused(t, cursor(t, s), append(marks(), "", "a"), append(marks(), "", "a", s))
	}
}

func TestCursorMovesThroughText(t *testing.T) {
	c := cursor(t, `sid 7; x "7" 07`)
	steps := []bool{!c.Mark(";"), !c.Word("7"), c.Word("sid"), !c.Word("sid"), !c.Mark(";")}
	n, ok := c.Int()
	steps = append(steps, n == 7 && ok, !c.Word(";"), c.Mark(";"), !c.Mark(";"), c.Word("x"), c.Next() == content("7", 9), c.Word("07"), c.Next() == end(15), !c.Word("07"))
	for k, right := range steps {
		if !right {
			t.Errorf("step %d", k)
		}
	}
}

// R4

func TestNilCursor(t *testing.T) {
	var c *lexer.Cursor
	for range 2 {
		n, ok := c.Int()
		if c.Peek() != (api.Token{}) || c.Next() != (api.Token{}) || c.Mark("") || c.Mark(";") || c.Word("") || c.Word("a") || n != 0 || ok {
			t.Error("a nil cursor has a token")
		}
	}
}

func TestPlainCursorDoesNotPanic(t *testing.T) {
	var c lexer.Cursor
	for range 2 {
		c.Peek()
		c.Next()
		c.Mark("")
		c.Word("")
		c.Int()
	}
}

// P4.9

// mixedToken returns a valid token.
func mixedToken(r *rand.Rand) api.Token {
	switch r.IntN(5) {
	case 0:
		return word(mixed(r, wordBytes, 1+r.IntN(80)), 0)
	case 1:
		return variable(mixed(r, letters, 1)+mixed(r, nameBytes, r.IntN(32)), 0)
	case 2:
		return content(mixed(r, allBytes(), r.IntN(257)), 0)
	case 3:
		return content(mixed(r, "\"\\|a0 \n", r.IntN(20)), 0)
	}
	return mark(marks()[r.IntN(len(marks()))], 0)
}

func withoutOffsets(l []api.Token) []api.Token {
	l = slices.Clone(l)
	for k := range l {
		l[k].At = 0
	}
	return l
}

func expectRoundTrip(t *testing.T, l []api.Token) {
	t.Helper()
	s := lexer.Print(l)
	if len(s) > api.MaxText {
		expectError(t, s, api.ErrLong, 0)
		return
	}
	got, err, at := lexer.Scan(s)
	if err != api.OK || at != 0 || !slices.Equal(withoutOffsets(got), append(withoutOffsets(l), end(0))) {
		t.Fatalf("Scan(%q) = %#v, %v, %d, want %#v", s, got, err, at, l)
	}
}

func TestScanInvertsPrint(t *testing.T) {
	r := source(49)
	for range 3000 {
		l := make([]api.Token, r.IntN(30))
		for k := range l {
			l[k] = mixedToken(r)
		}
		expectRoundTrip(t, l)
	}
	for _, a := range marks() {
		for _, b := range marks() {
			expectRoundTrip(t, []api.Token{mark(a, 0), mark(b, 0)})
		}
	}
}

func TestScanInvertsPrintOfScannedTexts(t *testing.T) {
	eachText("a1<>=-$\"| #\n", 4, func(s string) {
		if l, err, _ := lexer.Scan(s); err == api.OK {
			expectRoundTrip(t, l[:len(l)-1])
		}
	})
}

func TestScanInvertsPrintUpToMaxText(t *testing.T) {
	l := slices.Repeat([]api.Token{mark(";", 0)}, api.MaxText/2)
	expectRoundTrip(t, l)
	l = append(l, mark("->", 0))
	if n := len(lexer.Print(l)); n != api.MaxText+2 {
		t.Fatalf("the text has %d bytes", n)
	}
	expectRoundTrip(t, l)
	l[0] = mark("<>", 0)
	l = l[:api.MaxText/2]
	if n := len(lexer.Print(l)); n != api.MaxText {
		t.Fatalf("the text has %d bytes", n)
	}
	expectRoundTrip(t, l)
}

// P4.10

func TestOffsetsAscendStrictly(t *testing.T) {
	r := source(410)
	check := func(s string) {
		l, _, _ := lexer.Scan(s)
		for k := 1; k < len(l); k++ {
			if l[k-1].At >= l[k].At {
				t.Fatalf("Scan(%q) = %#v", s, l)
			}
		}
	}
	eachText("a$\"; <>#\n", 5, check)
	for range 500 {
		l := make([]api.Token, r.IntN(30))
		for k := range l {
			l[k] = mixedToken(r)
		}
		check(lexer.Print(l))
	}
}

// P4.11

func TestScanInvertsQuote(t *testing.T) {
	r := source(411)
	some := []string{"", allBytes(), strings.Repeat("\x00", 256), strings.Repeat("\"a", 128), strings.Repeat("|", 256), strings.Repeat("\\", 255), strings.Repeat("a", 256)}
	for range 3000 {
		some = append(some, mixed(r, allBytes(), r.IntN(257)), mixed(r, "\"\\| a0\n", r.IntN(30)))
	}
	for _, s := range some {
		quoted := lexer.Quote(s)
		expectTokens(t, quoted, content(s, 0), end(len(quoted)))
	}
	eachText("\"\\| 0\xff", 5, func(s string) {
		quoted := lexer.Quote(s)
		expectTokens(t, quoted, content(s, 0), end(len(quoted)))
	})
	expectError(t, lexer.Quote(strings.Repeat("a", 257)), api.ErrLong, 0)
}
