package samples_test

import (
	"testing"

	"newswire/grammar"
	"newswire/samples"
)

func TestGrammars(t *testing.T) {
	for _, g := range append(samples.Grammars(), samples.Small()) {
		if !grammar.Valid(g) {
			t.Errorf("the grammar %d is not valid: %v", g.Language, g)
		}
	}
}
