package parse

import (
	"slices"
	"strings"
	"testing"

	"gimlet/api"
)

// least is how deep what a rule says must be at least, so that a made text ends.
func (g grammar) least() map[string]int {
	out := map[string]int{}
	for name := range g.rules {
		out[name] = 1000
	}
	for range g.rules {
		for name, alts := range g.rules {
			out[name] = min(out[name], 1+leastAlts(out, alts))
		}
	}
	return out
}

func leastAlts(least map[string]int, alts [][]symbol) int {
	best := 1000
	for _, l := range alts {
		best = min(best, leastOf(least, l))
	}
	return best
}

func leastOf(least map[string]int, l []symbol) int {
	deep := 0
	for _, x := range l {
		switch x.s {
		case "[", "{":
		case "(":
			deep = max(deep, leastAlts(least, x.alts))
		default:
			deep = max(deep, least[x.s])
		}
	}
	return deep
}

var leasts = theGrammar.least()

// maker makes texts of some words: when so many are there, it ends as soon as it can.
type maker struct {
	dice
	left int
}

// words are some that the grammar allows for a rule.
func (m *maker) words(rule string, deep int) []string {
	m.left--
	d := &m.dice
	switch rule {
	case "Int":
		return []string{of(d, "0", "1", "42", "1073741823", "1073741824", "2147483647")}
	case "Text":
		return []string{of(d, `""`, `"a"`, `"("`, `"let"`, `"\255;;"`)}
	case "Name":
		return []string{of(d, "x", "y", "f", "g'", "_z", "int")}
	case "Con":
		return []string{of(d, "A", "B", "Nil'")}
	case "Var":
		return []string{of(d, "'a", "'b", "'let")}
	}
	if alts := theGrammar.rules[rule]; alts != nil {
		return m.alts(alts, deep-1)
	}
	return []string{strings.Trim(rule, `"`)}
}

func (m *maker) alts(alts [][]symbol, deep int) []string {
	if m.left < 0 {
		deep = 0
	}
	fits := slices.DeleteFunc(slices.Clone(alts), func(l []symbol) bool {
		least := leastOf(leasts, l)
		return least > deep && least > leastAlts(leasts, alts)+1
	})
	var out []string
	for _, x := range of(&m.dice, fits...) {
		if x.alts == nil {
			out = append(out, m.words(x.s, deep)...)
			continue
		}
		for range m.times(x, deep) {
			out = append(out, m.alts(x.alts, deep)...)
		}
	}
	return out
}

func (m *maker) times(x symbol, deep int) int {
	switch {
	case x.s == "(":
		return 1
	case m.left < 0 || deep < leastAlts(leasts, x.alts):
		return 0
	case x.s == "[":
		return m.below(2)
	}
	return m.below(3)
}

// joined is words as a text, with blanks between them.
func (d *dice) joined(words []string) string {
	text := of(d, "", " ", "(* *)")
	for _, w := range words {
		text += w + of(d, " ", " ", " ", "\n", "\t  ", "(* ;; *)", " (*(**)*) ")
	}
	return text
}

// spoiled are words with a few of them left out, put in or in other places.
func (d *dice) spoiled(words []string) []string {
	words = slices.Clone(words)
	for range d.below(3) {
		if len(words) == 0 {
			break
		}
		i, j := d.below(len(words)), d.below(len(words))
		switch d.below(6) {
		case 0:
			words = slices.Delete(words, i, i+1)
		case 1:
			words = slices.Insert(words, i, of(d, allWords()...))
		case 2:
			words[i] = of(d, allWords()...)
		case 3:
			words[i], words[j] = words[j], words[i]
		case 4:
			words = words[:i]
		case 5:
			words = slices.Insert(words, i, words[j])
		}
	}
	return words
}

// Texts that the grammar makes, and such with a few words otherwise, against the second reading.
func TestSeries(t *testing.T) {
	t.Parallel()
	d := dice(17)
	found := map[api.Errno]int{}
	for range 6000 {
		m := maker{dice(d.below(1 << 30)), 50 + d.below(1000)}
		words := m.words("Program", 10+d.below(40))
		found[asRead(t, d.joined(words)).Err]++
		found[asRead(t, d.joined(d.spoiled(words))).Err]++
	}
	if found[api.OK] < 2500 || found[api.ErrSyntax] < 2500 {
		t.Error(found)
	}
}

// samples are texts that together take each way through the grammar.
func samples() []string {
	return []string{
		"type ( 'a , 'b ) t = A | B of 'a * 'b t -> ( int ) u | C ;;",
		"type 'a t = A of ( int , 'a t -> u , ( 'b ) ) t u * v ;;",
		"exception E of ( t * u ) * v ;; exception F ;;",
		"let ( x , A _ ) , B ( C , - 1 ) , D true , ( ) = 1 ;;",
		"let rec f = fun ( A 1 ) -> 1 ; 2 and g = fun false , x -> f ( g x ) ;;",
		"let x = let y = 1 in let rec f = fun n -> n and g = fun _ -> 2 in f y , 2 ; 3 ;;",
		"let x = if a ; b then c := d else e , f ; begin g \"h\" end ;;",
		"let x = match a , b with | A x , B -> fun y -> y ; 1 | _ -> try c with D -> 2 | E -> raise ( F 3 ) ;;",
		"let x = ( a - b * c mod d / - e + ! f g ( ) true , 1 <= 2 := h = i ) < A B ;;",
		"let x = raise E , A ( 1 , 2 ) , A - 1 , f ( raise E ) A 1 , begin 1 end 2 ;;",
	}
}

// Each word behind each beginning of the samples, as the end, and with what comes there.
func TestEachWord(t *testing.T) {
	t.Parallel()
	for _, text := range samples() {
		accepts(t, text)
		words := strings.Fields(text)
		for i := range len(words) + 1 {
			begin := strings.Join(words[:i], " ") + " "
			asRead(t, begin)
			for _, w := range allWords() {
				asRead(t, begin+w)
				asRead(t, begin+w+" ;;")
				asRead(t, begin+w+" "+strings.Join(words[i:], " "))
				asRead(t, begin+w+" "+strings.Join(words[min(i+1, len(words)):], " "))
				asRead(t, begin+w+" 1 "+strings.Join(words[i:], " "))
				asRead(t, begin+w+" x "+strings.Join(words[min(i+1, len(words)):], " "))
			}
		}
	}
}

// All texts of up to three words, by themselves and where each kind of thing begins.
func TestShortTexts(t *testing.T) {
	t.Parallel()
	for _, a := range allWords() {
		asRead(t, a)
		for _, b := range allWords() {
			asRead(t, a+" "+b)
			for _, begin := range []string{"", "type ", "exception ", "exception E of ", "let ", "let rec ", "let x = ", "let x = f ", "let x = match y with "} {
				asRead(t, begin+a+" "+b+" ;;")
				asRead(t, begin+"( "+a+" "+b+" )")
			}
			for _, c := range allWords() {
				asRead(t, "let x = "+a+" "+b+" "+c)
			}
		}
	}
}

// All texts of up to five of the words that bind differently.
func TestShortExpressions(t *testing.T) {
	t.Parallel()
	all := []string{""}
	for range 6 {
		var longer []string
		for _, s := range all {
			asRead(t, "let x = "+s+";;")
			for _, w := range []string{"x", "A", "(", ")", "-", "*", "=", ",", ":=", ";"} {
				longer = append(longer, s+w+" ")
			}
		}
		all = longer
	}
}

// What is returned is new memory: no list of it has room in common with another one, of the same call or of another one.
func TestMemory(t *testing.T) {
	owners := map[*api.Part]int{}
	for _, text := range append(samples(), samples()...) {
		l, _ := Parse(text)
		own(owners, l)
	}
	for _, n := range owners {
		if n > 1 {
			t.Fatal(n)
		}
	}
	if len(owners) < 300 {
		t.Error(len(owners))
	}
}

// own counts for each part's place how many lists have it.
func own(owners map[*api.Part]int, l []api.Part) {
	room := l[:cap(l)]
	for i := range room {
		owners[&room[i]]++
	}
	for _, p := range l {
		own(owners, p.L)
	}
}
