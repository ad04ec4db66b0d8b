package prio_test

import (
	"slices"
	"testing"

	"custody/prio"
)

// The chapter's examples, in their order.

func TestExamplesPlay(t *testing.T) {
	plays(t, []played{
		{false, []step{{1, 5, 1}, {1, 3, 2}, {1, 5, 3}, {0}, {0}, {0}, {0}}, []pair{{5, 1}, {3, 2}, {5, 3}, {3, 2}, {5, 1}, {5, 3}, {-1, -1}}},
		{false, []step{{1, 5, 1}, {1, 5, 2}, {3, 2}, {2}, {4}, {3, 9}, {7}}, []pair{{5, 1}, {5, 2}, {5, 2}, {5, 1}, {1, 0}, {-1, -1}, {-1, -1}}},
		{true, []step{{1, 3, 1}, {1, 5, 2}, {1, 5, 3}, {0}, {0}, {0}}, []pair{{3, 1}, {5, 2}, {5, 3}, {5, 2}, {5, 3}, {3, 1}}},
	})
}

func TestExampleTexts(t *testing.T) {
	h := prio.New(func(a, b string) bool { return len(a) < len(b) })
	for _, text := range []string{"bb", "a", "cc", "d"} {
		h.Push(text)
	}
	if got := h.Sorted(); !slices.Equal(got, []string{"a", "d", "bb", "cc"}) {
		t.Errorf("Sorted is %q", got)
	}
}
