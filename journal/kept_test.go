package journal

import (
	"fmt"
	"testing"
)

// mustKeep holds the number of kept undos against what the promises need.
func mustKeep(t *testing.T, j *Journal, want int) {
	t.Helper()
	if len(j.undos) != want {
		t.Errorf("%d undos are kept; want %d", len(j.undos), want)
	}
	for _, undo := range j.undos[:cap(j.undos)][len(j.undos):] {
		if undo != nil {
			t.Error("an undo is kept that nothing can ask for any more")
		}
	}
}

// The language's rule 8: without an open level no change can be taken back, so nothing of it is kept.
func TestKeptWithoutLevel(t *testing.T) {
	j := New(nil)
	for i := range 100 {
		j.Set(fmt.Sprint(i%10), fmt.Sprint(i))
		mustKeep(t, j, 0)
	}
	for i := range 100 {
		j.Begin()
		j.Begin()
		j.Set("a", fmt.Sprint(i))
		j.Set("b", fmt.Sprint(i))
		mustKeep(t, j, 2)
		j.Commit()
		mustKeep(t, j, 2)
		if i%2 == 0 {
			j.Commit()
		} else {
			j.Rollback()
		}
		mustKeep(t, j, 0)
	}
	if j.undos != nil || j.starts != nil {
		t.Error("room for undos and levels is kept")
	}
}

// The language's rule 8: what was rolled back, and what changed nothing, is not kept in the levels around it.
func TestKeptInLevel(t *testing.T) {
	j := New(nil)
	j.Begin()
	j.Set("a", "1")
	j.Del("b")
	j.Set("c", string(make([]byte, 1<<16+1)))
	mustKeep(t, j, 1)
	for range 100 {
		j.Begin()
		j.Set("a", "2")
		j.Del("a")
		mustKeep(t, j, 3)
		j.Rollback()
		mustKeep(t, j, 1)
	}
	k := j.Copy()
	mustKeep(t, k, 1)
	k.Commit()
	mustKeep(t, k, 0)
	mustKeep(t, j, 1)
}
