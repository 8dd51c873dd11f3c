package lex_test

import (
	"slices"
	"strconv"
	"strings"
	"testing"

	"voussoir/api"
	"voussoir/lex"
)

// The example of the chapter
func TestExample(t *testing.T) {
	const s = "a+++1"
	wantTokens(t, s, cut(t, s, "+ ++"), at(1, 1, word("a")), at(1, 2, sign("++")), at(1, 4, sign("+")), at(1, 5, whole(1)))
}

// P5.1: names
func TestNames(t *testing.T) {
	for _, s := range []string{"a", "Z", "a1", "a_", "aB_9z", "true", "language", letters(api.MaxName)} {
		wantTokens(t, s, cut(t, s, ""), at(1, 1, word(s)))
	}
	wantTokens(t, "a+B", cut(t, "a+B", "+"), at(1, 1, word("a")), at(1, 2, sign("+")), at(1, 3, word("B")))
	wantTokens(t, `a"b"c`, cut(t, `a"b"c`, ""), at(1, 1, word("a")), at(1, 2, str("b")), at(1, 5, word("c")))
	wantLexFaults(t, "+", "a", 1, 1, letters(api.MaxName+1), letters(api.MaxText), "a"+strings.Repeat("_", api.MaxName), "a"+strings.Repeat("1", api.MaxName)+" b")
	wantLexFaults(t, "+", "_", 1, 1, "_", "_a", "__", "_1")
	wantLexFaults(t, "+", "\xc3", 1, 2, "aé")
}

// P5.1: integers
func TestIntegers(t *testing.T) {
	for s, n := range map[string]int{"0": 0, "7": 7, "007": 7, "2147483647": api.MaxInt, strings.Repeat("0", 5000) + "12": 12} {
		wantTokens(t, s, cut(t, s, ""), at(1, 1, whole(n)))
	}
	wantTokens(t, "1+2", cut(t, "1+2", "+"), at(1, 1, whole(1)), at(1, 2, sign("+")), at(1, 3, whole(2)))
	wantTokens(t, `1"a"`, cut(t, `1"a"`, ""), at(1, 1, whole(1)), at(1, 2, str("a")))
	wantTokens(t, "-1", cut(t, "-1", "-"), at(1, 1, sign("-")), at(1, 2, whole(1)))
	wantLexFaults(t, "+", "2", 1, 1, "2147483648", "2147483650 1", "2"+strings.Repeat("0", 5000))
	wantLexFaults(t, "+", "9", 1, 1, "9223372036854775808", "99999999999999999999", "9_", "9a", "9Z", "9a+", "9_9", "99999999999a")
	wantLexFaults(t, "+", "0", 1, 3, "1 0x1", "+ 0a", "1\t00000000000000000009999999999")
}

// P5.1: strings
func TestStrings(t *testing.T) {
	all := ""
	for c := byte(32); c <= 126; c++ {
		if c != '"' && c != '\\' {
			all += string([]byte{c})
		}
	}
	for _, s := range []string{"", " ", "a", "  a  ", "//", "a // b", "'", "_", "+ +", all, letters(200)} {
		wantTokens(t, s, cut(t, `"`+s+`"`, "+"), at(1, 1, str(s)))
	}
	wantTokens(t, "two", cut(t, `"a""b"1`, ""), at(1, 1, str("a")), at(1, 4, str("b")), at(1, 7, whole(1)))
	wantLexFaults(t, "+", `"`, 1, 1, `"`, `"a`, `"`+letters(200), `"`+letters(201)+`"`, `"`+letters(api.MaxText-1), "\"a\n\"", "\"\ta\"", "\"\x7f\"", "\"\x00\"", `"é"`, `"\"`, `"a\n"`, "\"a\r\"")
	wantLexFaults(t, "+", `"`, 1, 4, `"a""`, `"a""b`, `"a""\""`)
}

// P5.1, P5.7: the longest sign
func TestSigns(t *testing.T) {
	wantTokens(t, "no longer one", cut(t, "<=<", "< <=> <= ="), at(1, 1, sign("<=")), at(1, 3, sign("<")))
	wantTokens(t, "not all of a longer one", cut(t, "<=+", "< = + <=>"), at(1, 1, sign("<")), at(1, 2, sign("=")), at(1, 3, sign("+")))
	wantTokens(t, "at the end", cut(t, "<=", "<=> < ="), at(1, 1, sign("<")), at(1, 2, sign("=")))
	wantTokens(t, "no going back", cut(t, "+++", "++ +"), at(1, 1, sign("++")), at(1, 3, sign("+")))
	wantTokens(t, "with a blank", cut(t, "+ +", "++ +"), at(1, 1, sign("+")), at(1, 3, sign("+")))
	longest := strings.Repeat("!", 20)
	wantTokens(t, "as long as there may be", cut(t, longest+"!", "! "+longest), at(1, 1, sign(longest)), at(1, 21, sign("!")))
	const each = "! # $ % & ( ) * + , - . / : ; < = > ? @ [ ] ^ ` { | } ~"
	for i, got := range cut(t, each, each) {
		if got != at(1, 2*i+1, sign(signsOf(each)[i])) {
			t.Error(got)
		}
	}
	wantLexFaults(t, "+ <=>", "-", 1, 3, "a -", "+ -1", "1 -+")
	wantLexFaults(t, "+ <=>", "<", 1, 1, "<", "<=", "< =>", "<=+>")
	wantLexFaults(t, "+ <=>", "=", 1, 4, "<=>=", "a +=>")
	wantLexFaults(t, "++", "+", 1, 3, "+++")
	wantLexFaults(t, "", "+", 1, 1, "+")
}

// P5.1: bytes with which nothing begins, whatever the signs are
func TestNoToken(t *testing.T) {
	for _, c := range []byte("\x00\x01\x08\x0b\x0c\x0e\x1f'_\\\x7f\x80\xc3\xff") {
		name := string([]byte{c})
		wantLexFaults(t, definitionSigns[:strings.Index(definitionSigns, "'")], name, 1, 1, name, name+"a", name+name, name+" +")
		wantLexFaults(t, "+", name, 2, 2, "a\n+"+name)
	}
}

// P5.1: blanks, comments and places
func TestPlaces(t *testing.T) {
	for _, s := range []string{"", " ", "\t\r\n", "//", "// a", "//\n", "// é\x00\"\\_\n // x", "///\n"} {
		wantTokens(t, s, cut(t, s, "+"))
	}
	for s, want := range map[string]api.Token{
		" a":                     at(1, 2, word("a")),
		"\ta":                    at(1, 2, word("a")),
		"\ra":                    at(1, 2, word("a")),
		"\na":                    at(2, 1, word("a")),
		"\r\n a":                 at(2, 2, word("a")),
		"\n\n\n  a\n":            at(4, 3, word("a")),
		"//\na":                  at(2, 1, word("a")),
		"// x // y\n  // z\n\ta": at(3, 2, word("a")),
		"// é\ra\n  a // b":      at(2, 3, word("a")),
		" // \"\n \"//\"":        at(2, 2, str("//")),
	} {
		wantTokens(t, s, cut(t, s, "+"), want)
	}
	const s = "a//b\n 12//\n\n\"c\" + // d\r+"
	wantTokens(t, s, cut(t, s, "+"), at(1, 1, word("a")), at(2, 2, whole(12)), at(4, 1, str("c")), at(4, 5, sign("+")))
	wantLexFaults(t, "+", "_", 3, 4, "a // _\n\n\t+ _", "\n\n   _")
}

// P5.1: a comment is met before a sign; a sign that begins before it goes as far as it can.
func TestCommentsAndSigns(t *testing.T) {
	wantTokens(t, "slash", cut(t, "/ / //", "/"), at(1, 1, sign("/")), at(1, 3, sign("/")))
	wantTokens(t, "two slashes", cut(t, "a // b", "/ //"), at(1, 1, word("a")))
	wantTokens(t, "three slashes", cut(t, "///", "/ ///"))
	wantTokens(t, "a sign before", cut(t, "+// a", "+ /"), at(1, 1, sign("+")))
	wantTokens(t, "within a sign", cut(t, "+//+", "+ +//"), at(1, 1, sign("+//")), at(1, 4, sign("+")))
	wantTokens(t, "a sign goes on", cut(t, "+//+", "+ / +/"), at(1, 1, sign("+/")), at(1, 3, sign("/")), at(1, 4, sign("+")))
}

// P5.1: of several faults the first one
func TestFirstFault(t *testing.T) {
	wantLexFaults(t, "+", "-", 1, 3, "a - _", "+ -1a \"", "1 -"+letters(50))
	wantLexFaults(t, "+", "1", 2, 1, "a\n1a\n\"")
}

// P5.1: lists of signs that are not valid, whatever the string is
func TestInvalidSigns(t *testing.T) {
	bad := []string{"", "a", "Z", "0", "9", "_", "'", `"`, `\`, " ", "\t", "\n", "\x1f", "\x7f", "\x80", "é", "+a", "a+", "+ ", "+_", "_+", "+'", "'+", "+1+", strings.Repeat("+", 21)}
	for _, sign := range bad {
		for _, signs := range [][]string{{sign}, {"+", sign}, {sign, "+"}} {
			for _, s := range []string{"", "+", "_", sign} {
				l, f := lex.Lex(s, signs)
				wantFault(t, s, l, f, api.Fault{Code: api.ErrArg})
			}
		}
	}
}

// P5.1: how many signs there may be, each counted as often as it stands there
func TestSignLimit(t *testing.T) {
	for _, signs := range [][]string{numberedSigns(5000), slices.Repeat([]string{"+"}, 5000)} {
		if l, f := lex.Lex("+", signs); len(l) != 1 || f != (api.Fault{}) {
			t.Error(len(signs), l, f)
		}
		signs = append(signs, "+")
		l, f := lex.Lex("+", signs)
		wantFault(t, strconv.Itoa(len(signs)), l, f, api.Fault{Code: api.ErrArg})
	}
}

// P5.1, rule 6: as many bytes as there may be, and one more, which is refused before anything else
func TestLimit(t *testing.T) {
	if l := cut(t, strings.Repeat("+", api.MaxText), "+"); len(l) != api.MaxText || l[api.MaxText-1] != at(1, api.MaxText, sign("+")) {
		t.Error(len(l))
	}
	if l := cut(t, strings.Repeat("\n", api.MaxText-1)+"a", "+"); len(l) != 1 || l[0] != at(api.MaxText, 1, word("a")) {
		t.Error(l)
	}
	for _, s := range []string{strings.Repeat(" ", api.MaxText+1), strings.Repeat("_", api.MaxText+1), letters(1 << 20)} {
		for _, signs := range [][]string{nil, {"+"}, {"a"}} {
			l, f := lex.Lex(s, signs)
			wantFault(t, "too long", l, f, api.Fault{Code: api.ErrLimit})
		}
	}
}

// Rule 3: signs stay as they are, and results share no memory.
func TestMemory(t *testing.T) {
	signs := []string{"+", "->", "-", "+"}
	first, _ := lex.Lex("a -> b + 1", signs)
	second, _ := lex.Lex("a -> b + 1", signs)
	want := slices.Clone(second)
	for i := range first {
		first[i] = api.Token{}
	}
	if !slices.Equal(second, want) || !slices.Equal(signs, []string{"+", "->", "-", "+"}) {
		t.Error(second, signs)
	}
}
