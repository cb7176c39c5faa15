package lex

import (
	"math/big"
	"regexp"
	"slices"
	"strings"
	"testing"
	"unsafe"

	"gesso/api"
)

// The limits stand here as plain digits, so that a slip in how the program
// works them out is seen.
const (
	maxText = 4000
	most    = "1073741823"
)

// The words and the signs, as the document lists them.
const (
	allWords = "class to slot main var if else while return print fork wait signal swap new gate nil self"
	allSigns = "== + - * < = ! . , ; : ( ) { }"
)

func name(text string, at int) api.Token   { return api.Token{Kind: 1, Text: text, At: at} }
func number(text string, at int) api.Token { return api.Token{Kind: 2, Text: text, At: at} }
func word(text string, at int) api.Token   { return api.Token{Kind: 3, Text: text, At: at} }
func sign(text string, at int) api.Token   { return api.Token{Kind: 4, Text: text, At: at} }

// short answers the front of text, so that what is told stays short.
func short(text string) string { return text[:min(len(text), 60)] }

// scanned asks that Scan answers those tokens.
func scanned(t *testing.T, text string, want ...api.Token) {
	t.Helper()
	got, f := Scan(text)
	if f != (api.Fault{}) || !slices.Equal(got, want) {
		t.Errorf("%q: %v %v, want %v", short(text), got[:min(len(got), 20)], f, want[:min(len(want), 20)])
	}
}

// refused asks that Scan answers that fault, and nothing else.
func refused(t *testing.T, text string, code api.Errno, at int) {
	t.Helper()
	got, f := Scan(text)
	if f != (api.Fault{Code: code, At: at}) || len(got) != 0 {
		t.Errorf("%q: %v %v, want %d at %d", short(text), got[:min(len(got), 20)], f, code, at)
	}
}

func TestExamples(t *testing.T) {
	scanned(t, "a=b.at(3);", name("a", 0), sign("=", 1), name("b", 2), sign(".", 3), name("at", 4),
		sign("(", 6), number("3", 7), sign(")", 8), sign(";", 9))
	scanned(t, "main { # begins\n\tprint( x1 == -10 );\n}\n",
		word("main", 0), sign("{", 5), word("print", 17), sign("(", 22), name("x1", 24), sign("==", 27),
		sign("-", 30), number("10", 31), sign(")", 34), sign(";", 35), sign("}", 37))
	scanned(t, "class a:b{to c(d){return!d<1*2;}}",
		word("class", 0), name("a", 6), sign(":", 7), name("b", 8), sign("{", 9), word("to", 10), name("c", 13),
		sign("(", 14), name("d", 15), sign(")", 16), sign("{", 17), word("return", 18), sign("!", 24), name("d", 25),
		sign("<", 26), number("1", 27), sign("*", 28), number("2", 29), sign(";", 30), sign("}", 31), sign("}", 32))
}

func TestTextsWithoutTokens(t *testing.T) {
	for _, text := range []string{
		"", " ", "\n", "\t", "   ", "\n\n", "\t \n\t ", "#", "# a note", "#\n", "##", "#\n#", "# a\n# b\n",
		" #\n\t#", "# \"quoted\" 'too' `so`", "# # #", "#\x00\x01\r\x7f\x80\xff", "# é世", "# 007 1x >&/", "#\t\t \n\n",
		strings.Repeat(" ", maxText), strings.Repeat("\n", maxText), strings.Repeat("#", maxText),
		strings.Repeat("#\n", maxText/2),
	} {
		scanned(t, text)
	}
}

func TestNotesEnd(t *testing.T) {
	scanned(t, "a#b\nc", name("a", 0), name("c", 4))
	scanned(t, "a#b", name("a", 0))
	scanned(t, "#\na", name("a", 2))
	scanned(t, "a # b # c\nd # e\n", name("a", 0), name("d", 10))
	scanned(t, "#\"\n1#\"\n2", number("1", 3), number("2", 7))
	scanned(t, "#\xff\x80\r\x00\n;", sign(";", 6))
	scanned(t, "1#2\n3", number("1", 0), number("3", 4))
	scanned(t, "1#x", number("1", 0))
	scanned(t, "=#\n=", sign("=", 0), sign("=", 3))
	scanned(t, "nil#\nnil", word("nil", 0), word("nil", 5))
	scanned(t, "#\n#\n\n \t#\r\n  x", name("x", 12))
	refused(t, "#\n\r", api.ErrRune, 2)
	refused(t, "# >\n>", api.ErrRune, 4)
	refused(t, "# 00\n00", api.ErrForm, 5)
}

func TestNames(t *testing.T) {
	for _, text := range []string{
		"a", "z", "A", "Z", "_", "m", "M", "__", "_0", "a1", "z9", "Z0_", "a_b", "aB3_", "x0x", "_class", "Abc", "e10",
		"aaaaaaaaaaaaaaaaaaaaaaaaaaaaaaaaaaaaaaaaaaaaaaaaaaaaaaaaaaaaaaaaaaaaaaa", "abcdefghijklmnopqrstuvwxyz",
		"ABCDEFGHIJKLMNOPQRSTUVWXYZ", "a0123456789", "true", "null", "for", "then", "sel", "f", strings.Repeat("n", maxText),
	} {
		scanned(t, text, name(text, 0))
	}
	scanned(t, " a  b\tc\nd", name("a", 1), name("b", 4), name("c", 6), name("d", 8))
	scanned(t, "a.b", name("a", 0), sign(".", 1), name("b", 2))
	refused(t, "aé", api.ErrRune, 1)
	refused(t, "a$", api.ErrRune, 1)
}

func TestWords(t *testing.T) {
	for _, w := range strings.Fields(allWords) {
		scanned(t, w, word(w, 0))
		scanned(t, "("+w+")", sign("(", 0), word(w, 1), sign(")", len(w)+1))
		scanned(t, w+" "+w, word(w, 0), word(w, len(w)+1))
		for _, more := range []string{"s", "0", "_", "E", "a1", w} {
			scanned(t, w+more, name(w+more, 0))
		}
		for _, ahead := range []string{"x", "_", "S"} {
			scanned(t, ahead+w, name(ahead+w, 0))
		}
		scanned(t, w[:len(w)-1]+"_", name(w[:len(w)-1]+"_", 0))
		scanned(t, strings.ToUpper(w), name(strings.ToUpper(w), 0))
		scanned(t, strings.ToUpper(w[:1])+w[1:], name(strings.ToUpper(w[:1])+w[1:], 0))
	}
}

func TestDecimals(t *testing.T) {
	for _, text := range []string{
		"0", "1", "2", "3", "4", "5", "6", "7", "8", "9", "10", "90", "100", "1234567890"[:9],
		"1000000000", most[:9] + "2", most,
	} {
		scanned(t, text, number(text, 0))
		scanned(t, " "+text+"\n", number(text, 1))
		scanned(t, "-"+text, sign("-", 0), number(text, 1))
		for _, s := range strings.Fields(allSigns) {
			scanned(t, text+s, number(text, 0), sign(s, len(text)))
		}
	}
	scanned(t, "0 7", number("0", 0), number("7", 2))
	scanned(t, "1.5", number("1", 0), sign(".", 1), number("5", 2))
	scanned(t, "0.0", number("0", 0), sign(".", 1), number("0", 2))
}

func TestWhatIsNoDecimal(t *testing.T) {
	for _, text := range []string{
		"1073741824", "1073741830", "1073741900", "2000000000", "2147483648", "4294967296", "4294967297", "9999999999",
		"9223372036854775807", "9223372036854775808", "18446744073709551616", "18446744073709551617",
		strings.Repeat("9", 100), "1" + strings.Repeat("0", maxText-1), strings.Repeat("7", maxText),
		"00", "01", "07", "000", "09", "0" + most, strings.Repeat("0", maxText),
		"1a", "1z", "1A", "1Z", "1_", "0x", "0x10", "10m", "1e5", "1if", "9nil", most + "a", "1_000",
	} {
		refused(t, text, api.ErrForm, 0)
		if len(text) < maxText-20 {
			refused(t, "x = "+text+" ;", api.ErrForm, 4)
			refused(t, "7-"+text, api.ErrForm, 2)
			refused(t, text+"\xff", api.ErrForm, 0)
		}
	}
	refused(t, "1\xc3\xa9", api.ErrRune, 1)
	refused(t, "1 00a", api.ErrForm, 2)
	refused(t, "a1 1a", api.ErrForm, 3)
}

func TestSigns(t *testing.T) {
	for _, s := range strings.Fields(allSigns) {
		scanned(t, s, sign(s, 0))
		scanned(t, "\t"+s+" ", sign(s, 1))
		scanned(t, "a"+s+"b", name("a", 0), sign(s, 1), name("b", 1+len(s)))
		scanned(t, "1"+s+"2", number("1", 0), sign(s, 1), number("2", 1+len(s)))
	}
	scanned(t, "==", sign("==", 0))
	scanned(t, "= =", sign("=", 0), sign("=", 2))
	scanned(t, "=\n=", sign("=", 0), sign("=", 2))
	scanned(t, "===", sign("==", 0), sign("=", 2))
	scanned(t, "====", sign("==", 0), sign("==", 2))
	scanned(t, "=====", sign("==", 0), sign("==", 2), sign("=", 4))
	scanned(t, "=!=", sign("=", 0), sign("!", 1), sign("=", 2))
	scanned(t, "<=", sign("<", 0), sign("=", 1))
	scanned(t, "!==", sign("!", 0), sign("==", 1))
	scanned(t, "--", sign("-", 0), sign("-", 1))
	scanned(t, "+-*<=!.,;:(){}", sign("+", 0), sign("-", 1), sign("*", 2), sign("<", 3), sign("=", 4), sign("!", 5),
		sign(".", 6), sign(",", 7), sign(";", 8), sign(":", 9), sign("(", 10), sign(")", 11), sign("{", 12), sign("}", 13))
	scanned(t, "}{)(:;,.!=<*-+==", sign("}", 0), sign("{", 1), sign(")", 2), sign("(", 3), sign(":", 4), sign(";", 5),
		sign(",", 6), sign(".", 7), sign("!", 8), sign("=", 9), sign("<", 10), sign("*", 11), sign("-", 12), sign("+", 13),
		sign("==", 14))
}

// TestEachByte takes every byte alone, between others, and in a note.
func TestEachByte(t *testing.T) {
	begins := "abcdefghijklmnopqrstuvwxyzABCDEFGHIJKLMNOPQRSTUVWXYZ_0123456789+-*<=!.,;:(){} \n\t#"
	for i := range 256 {
		c := string([]byte{byte(i)})
		if c != "\n" {
			scanned(t, "a #"+c+"b\nc", name("a", 0), name("c", 6))
			scanned(t, "#"+c)
		}
		if got, f := Scan("a " + c + " b"); strings.Contains(begins, c) != (f == api.Fault{}) {
			t.Errorf("%q: %v %v", c, got, f)
		}
		if strings.Contains(begins, c) {
			continue
		}
		refused(t, c, api.ErrRune, 0)
		refused(t, "a"+c, api.ErrRune, 1)
		refused(t, "12"+c+"b", api.ErrRune, 2)
		refused(t, " = "+c+c, api.ErrRune, 3)
		refused(t, "#\n"+c, api.ErrRune, 2)
		refused(t, strings.Repeat(" ", maxText-1)+c, api.ErrRune, maxText-1)
	}
}

func TestFirstFault(t *testing.T) {
	refused(t, "> 07", api.ErrRune, 0)
	refused(t, "07 >", api.ErrForm, 0)
	refused(t, "a 1x 07 > /", api.ErrForm, 2)
	refused(t, "a & 1x 07", api.ErrRune, 2)
	refused(t, "a \"1x\"", api.ErrRune, 2)
	refused(t, "a # >\n 1073741824 >", api.ErrForm, 7)
	refused(t, "a == b; c / d; 00", api.ErrRune, 10)
	refused(t, "07>", api.ErrForm, 0)
	refused(t, "7>", api.ErrRune, 1)
	refused(t, "1a2b3c", api.ErrForm, 0)
}

func TestLengths(t *testing.T) {
	scanned(t, strings.Repeat(" ", maxText-1)+"a", name("a", maxText-1))
	scanned(t, strings.Repeat("\n", maxText-2)+"==", sign("==", maxText-2))
	long := strings.Repeat("(", maxText)
	got, f := Scan(long)
	if f != (api.Fault{}) || len(got) != maxText || got[maxText-1] != sign("(", maxText-1) {
		t.Error(len(got), f)
	}
	for _, text := range []string{
		long + "(", strings.Repeat(" ", maxText+1), strings.Repeat("\xff", maxText+1), strings.Repeat("0", maxText+1),
		">" + long, strings.Repeat(" ", maxText) + "\x00", "#" + long, strings.Repeat("a ", 1<<20), strings.Repeat("00 ", 5000),
	} {
		refused(t, text, api.ErrSize, 0)
	}
}

// Pieces of texts by patterns: what Scan answers is said over again with them.
var (
	gapPattern  = regexp.MustCompile(`^(?:[ \n\t]|#[^\n]*(?:\n|$))*`)
	namePattern = regexp.MustCompile(`^[A-Za-z_][A-Za-z0-9_]*`)
	digsPattern = regexp.MustCompile(`^[0-9]+`)
	goodPattern = regexp.MustCompile(`^(?:0|[1-9][0-9]*)(?:[^A-Za-z0-9_]|$)`)
	signPattern = regexp.MustCompile(`^(?:==|[-+*<=!.,;:(){}])`)
)

// said answers what Scan is to answer.
func said(text string) ([]api.Token, api.Fault) {
	if len(text) > maxText {
		return nil, api.Fault{Code: 1}
	}
	bound, _ := new(big.Int).SetString(most, 10)
	var all []api.Token
	at := 0
	for {
		at += len(gapPattern.FindString(text[at:]))
		if at == len(text) {
			return all, api.Fault{}
		}
		rest := text[at:]
		x := api.Token{At: at}
		if m := namePattern.FindString(rest); m != "" {
			x.Kind, x.Text = 1, m
			if slices.Contains(strings.Fields(allWords), m) {
				x.Kind = 3
			}
		} else if m := digsPattern.FindString(rest); m != "" {
			n, _ := new(big.Int).SetString(m, 10)
			if n.Cmp(bound) > 0 || !goodPattern.MatchString(rest) {
				return nil, api.Fault{Code: 2, At: at}
			}
			x.Kind, x.Text = 2, m
		} else if m := signPattern.FindString(rest); m != "" {
			x.Kind, x.Text = 4, m
		} else {
			return nil, api.Fault{Code: 11, At: at}
		}
		all = append(all, x)
		at += len(x.Text)
	}
}

// agreed asks that Scan answers what is said over again.
func agreed(t *testing.T, text string) bool {
	t.Helper()
	got, f := Scan(text)
	want, g := said(text)
	if f != g || !slices.Equal(got, want) {
		t.Errorf("%q: %v %v, want %v %v", text, got, f, want, g)
		return false
	}
	return true
}

// dice throws numbers, the same ones in each run.
type dice uint64

func (d *dice) throw(n int) int {
	*d = *d*6364136223846793005 + 1442695040888963407
	return int(uint64(*d) >> 33 % uint64(n))
}

func TestTextsOfPieces(t *testing.T) {
	pieces := append(strings.Fields(allWords+" "+allSigns), " ", "\n", "\t", " ", "\n", "# note\n", "#\n", "# é\"#\xff\n",
		"a", "b1", "_", "Self", "news", "0", "7", "42", most, "x_y_9", "=", "==")
	wrong := []string{">", "/", "&", "\"", "\x00", "\r", "\x7f", "\x80", "é", "07", "1073741824", "3x", "99999999999999999999"}
	d := dice(8)
	for range 20000 {
		text := ""
		for range d.throw(12) {
			if d.throw(30) == 0 {
				text += wrong[d.throw(len(wrong))]
			}
			text += pieces[d.throw(len(pieces))]
			if d.throw(2) == 0 {
				text += " "
			}
		}
		if !agreed(t, text) {
			break
		}
	}
}

func TestTextsOfBytes(t *testing.T) {
	few := "ab_1290=+# \n\tnil"
	d := dice(88)
	for range 20000 {
		b := make([]byte, d.throw(20))
		for i := range b {
			b[i] = few[d.throw(len(few))]
			if d.throw(40) == 0 {
				b[i] = byte(d.throw(256))
			}
		}
		if !agreed(t, string(b)) {
			break
		}
	}
}

// TestShortTexts takes all texts of at most four of some bytes.
func TestShortTexts(t *testing.T) {
	few := "a_01=.#\n >"
	texts := []string{""}
	for from := 0; len(texts) < 11111; from++ {
		for i := range len(few) {
			texts = append(texts, texts[from]+few[i:i+1])
		}
	}
	for _, text := range texts {
		if !agreed(t, text) {
			break
		}
	}
}

// TestTokensStandOnTheirOwn asks that no token shares memory with the text,
// and that tokens of two calls do not, either.
func TestTokensStandOnTheirOwn(t *testing.T) {
	text := strings.Clone("main { print(abc + 12); }")
	first := uintptr(unsafe.Pointer(unsafe.StringData(text)))
	got, f := Scan(text)
	if f != (api.Fault{}) {
		t.Fatal(f)
	}
	for _, x := range got {
		at := uintptr(unsafe.Pointer(unsafe.StringData(x.Text)))
		if first <= at && at < first+uintptr(len(text)) {
			t.Errorf("%v stands in the text", x)
		}
	}
	again, _ := Scan(text)
	again[0].Text = "spoilt"
	again = append(again[:1], sign("!", 9))
	if want, _ := said(text); !slices.Equal(got, want) {
		t.Error(got)
	}
}
