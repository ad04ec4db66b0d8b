package journal_test

import (
	"testing"

	"custody/api"
)

// TestExamples goes through the chapter's examples.
func TestExamples(t *testing.T) {
	leaves(t, "abc", w(crash(0)))
	leaves(t, "abcde", w(crash(2)))
	leaves(t, "abcdef", w(crash(9)))
	leaves(t, "abc", w(cut(1), crash(0)))
	leaves(t, "a", w(cut(1), crash(1)))
	leaves(t, "ag", w(cut(1), write("gh"), crash(1)))
	fails(t, api.ErrDead, w(arm(1, 4)), write("gh"))
	leaves(t, "abcdefg", w(arm(1, 4), write("gh")))
	fails(t, api.ErrDead, w(arm(2, 1), cut(5)), sync())
	leaves(t, "abcd", w(arm(2, 1), cut(5), sync()))
	d, _ := play(t, "", w(arm(2, 1), cut(5), sync())...)
	dead(t, d, "abcd")

	one, two := frame(1, "ab"), frame(2, "")
	scans(t, "", nil, 0, api.OK)
	scans(t, one+two, []string{"ab", ""}, len(one+two), api.OK)
	scans(t, one+two[:len(two)-1], []string{"ab"}, 8, api.ErrShort)
	scans(t, frame(2, "ab"), nil, 0, api.ErrForm)
	scans(t, one+"\xf8\x00", []string{"ab"}, 8, api.ErrForm)
}
