package pairs

import (
	"fmt"
	"math/rand"
	"slices"
	"testing"
)

// mustBalance looks at every node: rule R1 asks for an end of each call, and a tree that leans to one side has none in sight.
func mustBalance(t *testing.T, n *node) int {
	t.Helper()
	if n == nil {
		return 0
	}
	left, right := mustBalance(t, n.left), mustBalance(t, n.right)
	if left-right > 1 || right-left > 1 {
		t.Fatalf("the sides of %q have the heights %d and %d", n.pair.Key, left, right)
	}
	if height := 1 + max(left, right); n.height != height {
		t.Fatalf("%q has the height %d; want %d", n.pair.Key, n.height, height)
	}
	return n.height
}

func TestBalance(t *testing.T) {
	const many = 500
	places := map[string]func(int) int{
		"rising":  func(i int) int { return i },
		"falling": func(i int) int { return many - 1 - i },
		"inwards": func(i int) int { return i%2*(many-1) + (1-i%2*2)*(i/2) },
		"mixed":   func(i int) int { return i * 211 % many },
	}
	for in, setAt := range places {
		for out, delAt := range places {
			s := New()
			for i := range many {
				s.Set(fmt.Sprintf("%03d", setAt(i)), in)
				mustBalance(t, s.root)
			}
			for i := range many {
				if !s.Del(fmt.Sprintf("%03d", delAt(i))) {
					t.Fatalf("%s, then %s: no key %03d", in, out, delAt(i))
				}
				mustBalance(t, s.root)
			}
			if s.root != nil || s.Len() != 0 {
				t.Fatalf("%s, then %s: something is left", in, out)
			}
		}
	}
}

func TestBalanceOfMixedChanges(t *testing.T) {
	from := rand.New(rand.NewSource(9))
	s := New()
	for range 20000 {
		key := fmt.Sprint(from.Intn(300))
		if from.Intn(2) == 0 {
			s.Set(key, "")
		} else {
			s.Del(key)
		}
		mustBalance(t, s.root)
	}
}

// A tree loses nothing by a key that it does not have.
func TestWithoutAbsentKey(t *testing.T) {
	s := New()
	for _, key := range []string{"", "a", "b", "d"} {
		left := s.root.without("c")
		mustBalance(t, left)
		if !slices.Equal((&Store{root: left}).List(), s.List()) {
			t.Errorf("pairs are lost from %q", s.List())
		}
		s.Set(key, key)
	}
}
