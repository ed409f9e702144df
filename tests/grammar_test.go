package tests

import (
	"fmt"
	"regexp"
	"slices"
	"strconv"
	"strings"

	"loop.example/g01074/impl"
)

// documentGrammar is the grammar as chapter 4 states it; in addition, great is a number above 2147483647, which can stand in one place alone.
const documentGrammar = `
program = { data } { def }
data    = "data" upper "=" con { "|" con }
con     = upper [ "[" type { "," type } "]" ]
def     = "def" lower ":" type "=" term
type    = atype [ "->" type ]
atype   = "!" atype | "(" type ")" | upper
term    = "\" lower ":" type "." term
        | "let" lower "=" term "in" term
        | "if" term "then" term "else" term
        | compare
compare = sum [ ( "<" | "=" ) sum ]
sum     = product { ( "+" | "-" ) product }
product = apply { ( "*" | "/" ) apply }
apply   = prefix { prefix }
prefix  = "!" prefix
        | lower
        | upper [ "[" term { "," term } "]" ]
        | number
        | "(" "-" ( number | great ) ")"
        | "(" term ")"
        | "match" term "{" case { ";" case } "}"
case    = upper [ "[" lower { "," lower } "]" ] "->" term
`

// grammar has the alternatives of each nonterminal; all other symbols are tokens.
type grammar map[string][][]string

func readGrammar() grammar {
	words := strings.Fields(documentGrammar)
	g := grammar{}
	for len(words) > 0 {
		end := 2
		for end < len(words) && (end == len(words)-1 || words[end+1] != "=") {
			end++
		}
		body := words[2:end]
		g[words[0]] = g.alternatives(&body)
		words = words[end:]
	}
	return g
}

// alternatives reads up to the bracket that closes, and makes a nonterminal of each part in brackets.
func (g grammar) alternatives(words *[]string) [][]string {
	list := [][]string{nil}
	for len(*words) > 0 {
		word := (*words)[0]
		*words = (*words)[1:]
		switch word {
		case "}", "]", ")":
			return list
		case "|":
			list = append(list, nil)
			continue
		case "{", "[", "(":
			part := fmt.Sprint("part ", len(g))
			g[part] = nil
			inside := g.alternatives(words)
			for i := range inside {
				if word == "{" {
					inside[i] = append(inside[i], part)
				}
			}
			if word != "(" {
				inside = append(inside, nil)
			}
			g[part] = inside
			word = part
		}
		list[len(list)-1] = append(list[len(list)-1], word)
	}
	return list
}

// pending is what has still to be derived: a symbol, and what is behind it.
type pending struct {
	symbol string
	behind *pending
}

// derivation is all that can still be pending behind some tokens of a text.
type derivation struct {
	g    grammar
	ways []*pending
}

func (g grammar) begin(start string) derivation {
	return derivation{g, []*pending{{start, nil}}}
}

// expand tells what can be pending with a token in front, or nil for the end of the text. This ends, because no production begins with itself.
func (d derivation) expand(tell func(*pending)) {
	var expand func(p *pending)
	expand = func(p *pending) {
		if p == nil || d.g[p.symbol] == nil {
			tell(p)
			return
		}
		for _, symbols := range d.g[p.symbol] {
			next := p.behind
			for _, symbol := range slices.Backward(symbols) {
				next = &pending{symbol, next}
			}
			expand(next)
		}
	}
	for _, p := range d.ways {
		expand(p)
	}
}

// with is the derivation behind one more token; nothing is pending if there is none.
func (d derivation) with(word string) derivation {
	symbol := symbolOf(word)
	next := derivation{g: d.g}
	d.expand(func(p *pending) {
		if p != nil && p.symbol == symbol {
			next.ways = append(next.ways, p.behind)
		}
	})
	return next
}

func (d derivation) dead() bool { return len(d.ways) == 0 }

// whole reports whether the text may end here.
func (d derivation) whole() bool {
	ends := false
	d.expand(func(p *pending) { ends = ends || p == nil })
	return ends
}

// symbols keeps what symbolOf has told before, because it is asked very often.
var symbols = map[string]string{}

func symbolOf(word string) string {
	if symbols[word] == "" {
		symbols[word] = newSymbolOf(word)
	}
	return symbols[word]
}

func newSymbolOf(word string) string {
	switch kindOfWord(word) {
	case impl.TkLower:
		return "lower"
	case impl.TkUpper:
		return "upper"
	case impl.TkNumber:
		if word == "2147483648" {
			return "great"
		}
		return "number"
	}
	return `"` + word + `"`
}

// vocabulary has each symbol and each keyword, and words of the other kinds.
func vocabulary() []string {
	return append(append(keywords(), "->"), strings.Fields(`+ - * / < = ( ) [ ] { } , ; : . | ! \ x f Int S 0 7 2147483647 2147483648`)...)
}

var (
	wordPattern   = regexp.MustCompile(`^([A-Za-z0-9]+|->|[-+*/<=()\[\]{},;:.|!\\])`)
	numberPattern = regexp.MustCompile(`^(0|[1-9][0-9]{0,9})$`)
	lowerPattern  = regexp.MustCompile(`^[a-z][A-Za-z0-9]{0,11}$`)
	upperPattern  = regexp.MustCompile(`^[A-Z][A-Za-z0-9]{0,11}$`)
	runPattern    = regexp.MustCompile(`^[A-Za-z0-9]+$`)
)

// kindOfWord is the kind of a token, or 0 if a run of letters and digits is none.
func kindOfWord(word string) int64 {
	switch {
	case slices.Contains(keywords(), word):
		return impl.TkKeyword
	case lowerPattern.MatchString(word):
		return impl.TkLower
	case upperPattern.MatchString(word):
		return impl.TkUpper
	case numberPattern.MatchString(word):
		if n, _ := strconv.Atoi(word); n > 1<<31 {
			return 0
		}
		return impl.TkNumber
	case runPattern.MatchString(word):
		return 0
	}
	return impl.TkSymbol
}

// tokensAsStated is Tokens as chapter 4 states it.
func tokensAsStated(text string) ([]impl.Token, int64, int64) {
	if len(text) > 20000 {
		return nil, 0, impl.ErrRange
	}
	var list []impl.Token
	for at := 0; at < len(text); {
		if text[at] == ' ' || text[at] == '\n' || text[at] == '\t' {
			at++
			continue
		}
		word := wordPattern.FindString(text[at:])
		if word == "" || kindOfWord(word) == 0 {
			return nil, int64(at), impl.ErrSyntax
		}
		list = append(list, impl.Token{Kind: kindOfWord(word), Text: word, At: int64(at)})
		at += len(word)
	}
	return list, 0, impl.OK
}

// wordsOf are the tokens of a text that has no error.
func wordsOf(text string) []string {
	var words []string
	for _, token := range must(tokensAsStated(text)) {
		words = append(words, token.Text)
	}
	return words
}

// must is a result that comes without an error.
func must[T any](result T, at, code int64) T {
	if at != 0 || code != impl.OK {
		panic(fmt.Sprint("error ", code, " at ", at))
	}
	return result
}

// placed joins words with a blank text between each two and around them, and tells the offsets of the words.
func placed(words []string, blank string) (string, []int64) {
	var text strings.Builder
	var offsets []int64
	for _, word := range words {
		text.WriteString(blank)
		offsets = append(offsets, int64(text.Len()))
		text.WriteString(word)
	}
	text.WriteString(blank)
	return text.String(), offsets
}

// dense joins words with a space only where they would run into each other.
func dense(words []string) string {
	var text strings.Builder
	for i, word := range words {
		if i > 0 && runPattern.MatchString(words[i-1]) && runPattern.MatchString(word) {
			text.WriteString(" ")
		}
		text.WriteString(word)
	}
	return text.String()
}

// loose are the tokens of a term, with parentheses around the nodes that are enclosed, numbered from left to right and each before its kids.
func loose(t impl.Term, enclosed map[int]bool) []string {
	w := looseWords{enclosed: enclosed}
	w.term(t)
	return w.words
}

type looseWords struct {
	words    []string
	enclosed map[int]bool
	nodes    int
}

func (w *looseWords) write(words ...string) { w.words = append(w.words, words...) }

func (w *looseWords) term(t impl.Term) {
	enclosed := w.enclosed[w.nodes]
	w.nodes++
	if enclosed {
		w.write("(")
		defer w.write(")")
	}
	switch t.Kind {
	case impl.TmVar:
		w.write(t.Name)
	case impl.TmNum:
		w.number(t.Num)
	case impl.TmOp:
		w.parts(t, "", strings.Fields("+ - * / < =")[t.Num-1])
	case impl.TmLam:
		w.parts(t, `\ `+t.Name+" : "+strings.Join(wordsOf(impl.TypeText(t.Type)), " ")+" .")
	case impl.TmApp:
		w.parts(t)
	case impl.TmBox:
		w.parts(t, "!")
	case impl.TmLet:
		w.parts(t, "let "+t.Name+" =", "in")
	case impl.TmCon:
		w.write(t.Name)
		w.parts(t, "[", ",", ",")
		if len(t.Kids) > 0 {
			w.write("]")
		}
	case impl.TmMatch:
		w.parts(t, append([]string{"match", "{"}, slices.Repeat([]string{";"}, len(t.Kids)-2)...)...)
		w.write("}")
	case impl.TmCase:
		w.write(t.Name)
		for i, name := range t.Names {
			w.write([]string{"[", ","}[min(i, 1)], name)
		}
		w.parts(t, []string{"->", "] ->"}[min(len(t.Names), 1)])
	case impl.TmIf:
		w.parts(t, "if", "then", "else")
	}
}

// parts writes the kids of a node, each one behind the words before it.
func (w *looseWords) parts(t impl.Term, before ...string) {
	for i, kid := range t.Kids {
		if i < len(before) {
			w.write(strings.Fields(before[i])...)
		}
		w.term(kid)
	}
}

func (w *looseWords) number(n int64) {
	if digits, negative := strings.CutPrefix(strconv.FormatInt(n, 10), "-"); negative {
		w.write("(", "-", digits, ")")
	} else {
		w.write(digits)
	}
}

// composite are the numbers of the nodes of a term that can stand in parentheses and are not a single token.
func composite(t impl.Term) []int {
	var list []int
	at := -1
	var look func(t impl.Term)
	look = func(t impl.Term) {
		at++
		if len(t.Kids) > 0 && t.Kind != impl.TmCase {
			list = append(list, at)
		}
		for _, kid := range t.Kids {
			look(kid)
		}
	}
	look(t)
	return list
}

func setOf(list []int) map[int]bool {
	set := map[int]bool{}
	for _, n := range list {
		set[n] = true
	}
	return set
}

// denotes reports whether words are parsed as a term.
func denotes(words []string, t impl.Term) bool {
	parsed, _, code := impl.ParseTerm(dense(words))
	return code == impl.OK && equalTerms(parsed, t)
}

// tight are the tokens of a term from which no pair of parentheses can be taken away.
func tight(t impl.Term) []string {
	enclosed := setOf(composite(t))
	for n := range enclosed {
		enclosed[n] = false
		if !denotes(loose(t, enclosed), t) {
			enclosed[n] = true
		}
	}
	return loose(t, enclosed)
}

// spaced joins the tokens of a term as chapter 4 says.
func spaced(words []string) string {
	var text strings.Builder
	for i, word := range words {
		if i > 0 && !strings.Contains(`( [ ! \`, words[i-1]) && !strings.Contains(") ] [ , ; : .", word) && words[i-1] != ":" && !(words[i-1] == "-" && words[i-2] == "(") {
			text.WriteString(" ")
		}
		text.WriteString(word)
	}
	return text.String()
}

// writtenProgram is the canonical text of a program, but for its limit.
func writtenProgram(p impl.Program) string {
	text := ""
	for _, data := range p.Datas {
		text += "data " + data.Name
		for i, constructor := range data.Cons {
			text += []string{" = ", " | "}[min(i, 1)] + constructor.Name
			for k, field := range constructor.Fields {
				text += []string{"[", ", "}[min(k, 1)] + impl.TypeText(field)
			}
			if len(constructor.Fields) > 0 {
				text += "]"
			}
		}
		text += "\n"
	}
	for _, def := range p.Defs {
		text += "def " + def.Name + " : " + impl.TypeText(def.Type) + " = " + spaced(tight(def.Body)) + "\n"
	}
	return text
}
