// Package samples has grammars, sources, statements and terms with which the layers are tested. What is left to chance is chosen by a function pick, which returns a number from 0 to n - 1.
package samples

import (
	"slices"
	"strings"

	"newswire/api"
)

// The words of the grammars, by languages.
const (
	entities = `minister senator mayor baker teacher farmer judge pilot miner nurse poet sailor widow cook clerk guard monk smith actor dancer
		minister(de) senatorin burgvogt baecker lehrerin bauer richter pilot(de) kumpel pflegerin dichter matrose witwe koch schreiber wache moench schmied spieler taenzerin
		ministro senadora alcalde panadero maestra granjero juez piloto minero enfermera poeta marinero viuda cocinero escribano guardia monje herrero actor(es) bailarina`
	verbs = `warns warn thanks thank meets meet sues sue pays pay hires hire elects elect visits visit blames blame owes owe
		warnt warnen dankt danken trifft treffen verklagt verklagen zahlt zahlen heuert heuern waehlt waehlen besucht besuchen tadelt tadeln schuldet schulden
		avisa avisan agradece agradecen halla hallan demanda demandan paga pagan contrata contratan elige eligen visita visitan culpa culpan debe deben`
	sources = `gazette herald courier tribune observer echo mercury standard chronicle monitor beacon argus
		anzeiger bote kurier tribuene beobachter widerhall merkur banner chronik waechter leuchte bericht
		gaceta heraldo correo tribuna observador eco mercurio estandarte cronica vigia faro argos`
	units = `people metres feet kilograms pounds cents eurocents
		leute meter fuss kilogramm pfund dollarcents centimes
		personas metros pies kilos libras centavos centimos`
	marks = `tale para list table dot head quote row note own
		bericht(m) absatz liste tafel punkt kopf zitat zeile notiz eigen
		cuento parrafo lista tabla punto titular cita fila nota propio`
	small = `fin per some never to with between and at since until
		ende laut jemand nie an mit zwischen und-auch um seit bis
		fino segun alguien nunca a con entre e en desde hasta`
	articles = `the those the those the those them themselves them themselves them themselves
		der die die die das die den jene jene jene jenes jene
		el los la las lo les al aquellos aquel aquellas aquello aquellas`
)

// row returns the words of a language.
func row(words string, language int) []string {
	line := strings.Split(words, "\n")[language-1]
	var out []string
	for _, s := range strings.Fields(line) {
		s = strings.NewReplacer("(de)", "-de", "(es)", "-es", "(m)", "-m").Replace(s)
		out = append(out, s)
	}
	return out
}

// order returns the order of parts in a language.
func order(language int) [5]int {
	switch language {
	case api.LGerman:
		return [5]int{api.PTime, api.PSubject, api.PVerb, api.PObject, api.PCount}
	case api.LSpanish:
		return [5]int{api.PSubject, api.PCount, api.PVerb, api.PTime, api.PObject}
	}
	return [5]int{api.PSubject, api.PVerb, api.PObject, api.PCount, api.PTime}
}

// Grammar returns the grammar of a language, with all words that there can be.
func Grammar(language int) api.Grammar {
	g := api.Grammar{Language: language, Sources: row(sources, language), Order: order(language)}
	for i, s := range row(entities, language) {
		g.Entities = append(g.Entities, api.Entity{Word: s, Gender: i % 3, Many: i%4 == 3})
	}
	v := row(verbs, language)
	for i := range api.MaxVerbs {
		g.Verbs = append(g.Verbs, api.Verb{One: v[2*i], Many: v[2*i+1]})
	}
	copy(g.Units[1:], row(units, language))
	copy(g.Marks[1:], row(marks, language))
	a := row(articles, language)
	copy(g.Subjects[:], a)
	copy(g.Objects[:], a[len(g.Subjects):])
	w := row(small, language)
	for i, s := range []*string{&g.End, &g.Per, &g.Some, &g.Not, &g.Object, &g.Count, &g.Between, &g.And, &g.At, &g.Since, &g.Until} {
		*s = w[i]
	}
	return g
}

// Grammars returns the grammars of all languages.
func Grammars() []api.Grammar {
	return []api.Grammar{Grammar(api.LEnglish), Grammar(api.LGerman), Grammar(api.LSpanish)}
}

// Small returns the grammar of the document's examples: two entities, one verb and one source.
func Small() api.Grammar {
	g := Grammar(api.LEnglish)
	g.Entities = []api.Entity{{Word: "minister"}, {Word: "senators", Many: true}}
	g.Verbs, g.Sources = g.Verbs[:1:1], g.Sources[:1:1]
	for i := range g.Subjects {
		g.Subjects[i], g.Objects[i] = "the", "them"
	}
	return g
}

// Amount returns an amount, or none.
func Amount(pick func(n int) int) api.Amount {
	if pick(3) == 0 {
		return api.Amount{}
	}
	lo := pick(2000)
	return api.Amount{Lo: lo, Hi: lo + pick(3)*pick(100), Unit: 1 + pick(api.UEuro)}
}

// Statement returns a statement.
func Statement(pick func(n int) int) api.Statement {
	s := api.Statement{Who: pick(api.MaxEntities), What: pick(api.MaxVerbs), Whom: pick(api.MaxEntities+1) - 1, Count: Amount(pick), From: -1, To: -1}
	if pick(2) == 0 {
		s.From = 2000 + pick(40000000)
		s.To = s.From + pick(2)*pick(100000)
	}
	return s
}

// Source returns a source to whom something is attributed, or nobody.
func Source(pick func(n int) int) int {
	switch pick(4) {
	case 0:
		return pick(api.MaxSources)
	case 1:
		return api.SomeSource
	}
	return -1
}

// Leaf returns a node of a kind that is no container.
func Leaf(pick func(n int) int, kind int) api.Node {
	n := api.Node{Kind: kind}
	switch kind {
	case api.NNotice:
		n.Fact, n.Version, n.Not = pick(api.MaxFacts), pick(api.MaxVersions+1), pick(2) == 0
	case api.NOwn:
		n.Text = []string{"so they say", "we said 3 times", "x"}[pick(3)]
	default:
		n.Fact, n.Version, n.Source = pick(4), 1+pick(3), Source(pick)
		n.Says, n.Not = Statement(pick), kind != api.NRow && pick(4) == 0
		if kind == api.NQuote && n.Source == -1 {
			n.Source = pick(api.MaxSources)
		}
	}
	return n
}

// Term returns a story of at most size nodes, whose root is 0, and whose other IDs are in no order.
func Term(pick func(n int) int, size int) api.Term {
	t := api.Term{Nodes: []api.Node{{Parent: -1, Kind: api.NStory}}}
	var fill func(parent api.Node, deep int)
	fill = func(parent api.Node, deep int) {
		for range 1 + pick(4) {
			if len(t.Nodes) >= size {
				return
			}
			kind := api.NParagraph + pick(api.NOwn-1)
			switch {
			case parent.Kind == api.NTable:
				kind = api.NRow
			case kind == api.NRow || kind == api.NHeadline && parent.Kind != api.NStory || kind <= api.NTable && deep > 2:
				kind = api.NSentence
			}
			n := api.Node{Kind: kind}
			if kind > api.NTable {
				n = Leaf(pick, kind)
			}
			n.ID, n.Parent = newID(pick, t), parent.ID
			t.Nodes = append(t.Nodes, n)
			if kind <= api.NTable {
				fill(n, deep+1)
			}
		}
	}
	fill(t.Nodes[0], 0)
	return t
}

// newID returns a number that no node of t has.
func newID(pick func(n int) int, t api.Term) int {
	for {
		id := 1 + pick(99)
		if !slices.ContainsFunc(t.Nodes, func(n api.Node) bool { return n.ID == id }) {
			return id
		}
	}
}
