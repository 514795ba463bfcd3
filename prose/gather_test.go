package prose_test

import (
	"errors"
	"fmt"
	"strings"
	"sync"
	"testing"
	"unicode/utf8"

	"prose/api"
	"prose/plain"
	"prose/prose"
)

// answer is what a source answers to one read.
type answer struct {
	piece string
	done  bool
	err   error
}

func (a answer) String() string {
	return fmt.Sprintf("{%q %v %v}", a.piece, a.done, a.err)
}

// script is a source that answers as it is written, and counts how often it was read.
type script struct {
	answers []answer
	reads   int
}

func (s *script) Read() (string, bool, error) {
	s.reads++
	if s.reads > len(s.answers) {
		return "behind the end", true, nil
	}
	a := s.answers[s.reads-1]
	return a.piece, a.done, a.err
}

// ask is a source that is a function.
type ask func() (string, bool, error)

func (f ask) Read() (string, bool, error) { return f() }

// pieces are answers without an end.
func pieces(l ...string) []answer {
	var out []answer
	for _, p := range l {
		out = append(out, answer{piece: p})
	}
	return out
}

// doneWith ends with the last piece.
func doneWith(l ...string) []answer {
	out := pieces(l...)
	out[len(out)-1].done = true
	return out
}

// doneBehind ends behind the last piece.
func doneBehind(l ...string) []answer { return append(pieces(l...), answer{done: true}) }

// failing fails behind the last piece.
func failing(err error, l ...string) []answer { return append(pieces(l...), answer{err: err}) }

func letters(n int) string { return strings.Repeat("x", n) }

func each(n int, p string) []string {
	var out []string
	for range n {
		out = append(out, p)
	}
	return out
}

// checkText asks for a text, and that all answers were read and no more.
func checkText(t *testing.T, answers []answer, want string) {
	t.Helper()
	s := &script{answers: answers}
	got, err := prose.Gather(s)
	if got != want || err != nil {
		t.Errorf("Gather of %v = %q, %v, want %q", answers, got, err, want)
	}
	if s.reads != len(answers) {
		t.Errorf("Gather of %v: %d reads, want %d", answers, s.reads, len(answers))
	}
}

// checkError asks for an error of package api that is told by itself, at a read.
func checkError(t *testing.T, answers []answer, want error, reads int) {
	t.Helper()
	s := &script{answers: answers}
	got, err := prose.Gather(s)
	if got != "" || err != want {
		t.Errorf("Gather of %v = %q, %v, want %v", answers, got, err, want)
	}
	if s.reads != reads {
		t.Errorf("Gather of %v: %d reads, want %d", answers, s.reads, reads)
	}
}

// checkFailed asks for a ReadError of just that error, behind n bytes, at a read.
func checkFailed(t *testing.T, answers []answer, want error, n, reads int) {
	t.Helper()
	s := &script{answers: answers}
	got, err := prose.Gather(s)
	r, ok := err.(*api.ReadError)
	if got != "" || !ok || r.Err != want || r.N != n {
		t.Errorf("Gather of %v = %q, %#v, want a ReadError of %v behind %d bytes", answers, got, err, want, n)
	}
	if !errors.Is(err, want) {
		t.Errorf("Gather of %v = %v, which does not wrap %v", answers, err, want)
	}
	if s.reads != reads {
		t.Errorf("Gather of %v: %d reads, want %d", answers, s.reads, reads)
	}
}

// P3: pieces up to the one with done, together.
func TestGatherReadsToTheEnd(t *testing.T) {
	for _, c := range []struct {
		l    []string
		want string
	}{
		{[]string{""}, ""},
		{[]string{"a"}, "a"},
		{[]string{"# x\n> - y"}, "# x\n> - y"},
		{[]string{"a *b", "* ", "c\n"}, "a *b* c\n"},
		{[]string{"", "a", "", "b"}, "ab"},
		{[]string{"été ", "€", "😀"}, "été €😀"},
		{[]string{"  \t", "\n\n", " "}, "  \t\n\n "},
	} {
		checkText(t, doneWith(c.l...), c.want)
		checkText(t, doneBehind(c.l...), c.want)
	}
	checkText(t, []answer{{done: true}}, "")
}

// P3: a source is not read behind its end, whatever it would answer there.
func TestGatherStopsAtTheEnd(t *testing.T) {
	for _, behind := range []answer{{piece: "more"}, {piece: letters(301)}, {err: errors.New("late")}, {done: true}} {
		s := &script{answers: append(doneWith("a", "b"), behind)}
		if got, err := prose.Gather(s); got != "ab" || err != nil || s.reads != 2 {
			t.Errorf("Gather with %v behind the end = %q, %v, %d reads", behind, got, err, s.reads)
		}
	}
}

// P3: the text is made regular.
func TestGatherMakesRegular(t *testing.T) {
	for _, c := range []struct{ raw, want string }{
		{"a\r\nb\rc\n\rd\r", "a\nb\nc\n\nd\n"},
		{"\r\r\n\n", "\n\n\n"},
		{"a\x00b", "a\ufffdb"},
		{"a\xffb\xc3", "a\ufffdb\ufffd"},
		{"\xe2\x82", "\ufffd\ufffd"},
		{"\xed\xa0\x80", "\ufffd\ufffd\ufffd"},
		{"\ufffd", "\ufffd"},
	} {
		checkText(t, doneWith(c.raw), c.want)
		checkText(t, doneBehind(c.raw), c.want)
	}
}

// P3: of all pieces together: what comes of a text does not hang on the cuts.
func TestGatherDoesNotHangOnCuts(t *testing.T) {
	const raw = "é\r\n😀\r\r\n\x00€\xe2\x82\xff\xc3\r\na\n"
	const want = "é\n😀\n\n\ufffd€\ufffd\ufffd\ufffd\ufffd\na\n"
	for i := range len(raw) + 1 {
		for j := i; j <= len(raw); j++ {
			checkText(t, doneWith(raw[:i], raw[i:j], raw[j:]), want)
			checkText(t, doneBehind(raw[:i], raw[i:j], raw[j:]), want)
		}
	}
	var bytes []string
	for i := range len(raw) {
		bytes = append(bytes, raw[i:i+1])
	}
	checkText(t, doneWith(bytes...), want)
	checkText(t, doneBehind(bytes...), want)
}

// P4: 300 bytes are not too long; they are counted as they come, not as runes and not as the regular text has them.
func TestGatherTakes300Bytes(t *testing.T) {
	checkText(t, doneWith(letters(300)), letters(300))
	checkText(t, doneBehind(letters(300)), letters(300))
	checkText(t, doneWith(letters(299), "y"), letters(299)+"y")
	checkText(t, doneBehind(letters(300), "", ""), letters(300))
	checkText(t, doneWith(each(300, "y")...), strings.Repeat("y", 300))
	checkText(t, doneWith(strings.Repeat("é", 150)), strings.Repeat("é", 150))
	checkText(t, doneWith(strings.Repeat("\xff", 300)), strings.Repeat("\ufffd", 300))
	checkText(t, doneWith(strings.Repeat("\r\n", 150)), strings.Repeat("\n", 150))
}

// P4: more are ErrLong, as soon as they have come.
func TestGatherRefuses301Bytes(t *testing.T) {
	checkError(t, doneWith(letters(301)), api.ErrLong, 1)
	checkError(t, doneBehind(letters(301)), api.ErrLong, 1)
	checkError(t, doneWith(letters(100000)), api.ErrLong, 1)
	checkError(t, doneWith(letters(300), "y"), api.ErrLong, 2)
	checkError(t, doneWith(letters(300), "", "", "y"), api.ErrLong, 4)
	checkError(t, doneBehind(each(400, "y")...), api.ErrLong, 301)
	checkError(t, doneWith(strings.Repeat("é", 150), "y"), api.ErrLong, 2)
	checkError(t, doneWith(strings.Repeat("\r\n", 150), "\n"), api.ErrLong, 2)
}

// P4: two empty pieces one behind the other are borne, anywhere and again and again; an empty one with done is none of them.
func TestGatherBearsTwoEmptyPieces(t *testing.T) {
	checkText(t, doneWith("", "", "a"), "a")
	checkText(t, doneWith("a", "", "", "b"), "ab")
	checkText(t, doneWith("a", "", "", "b", "", "", "c"), "abc")
	checkText(t, doneWith("", "", "a", "", "b", "", ""), "ab")
	checkText(t, doneBehind("a", "", ""), "a")
	checkText(t, doneBehind("", ""), "")
	checkText(t, doneWith("a", "", "", ""), "a")
	checkText(t, doneWith("", "", "\x00", "", "", "\n"), "\ufffd\n")
}

// P4: three are ErrIdle.
func TestGatherRefusesThreeEmptyPieces(t *testing.T) {
	checkError(t, pieces("", "", ""), api.ErrIdle, 3)
	checkError(t, doneWith("", "", "", "a"), api.ErrIdle, 3)
	checkError(t, doneBehind("", "", ""), api.ErrIdle, 3)
	checkError(t, doneWith("a", "", "", "", "b"), api.ErrIdle, 4)
	checkError(t, doneBehind("", "", "a", "", "", ""), api.ErrIdle, 6)
	checkError(t, doneBehind(letters(300), "", "", ""), api.ErrIdle, 4)
}

// P4: an error of the source is wrapped; N: what had come before that read; and it is not read behind it.
func TestGatherFailsWithItsSource(t *testing.T) {
	own := errors.New("its own")
	checkFailed(t, failing(own), own, 0, 1)
	checkFailed(t, failing(own, "abc"), own, 3, 2)
	checkFailed(t, failing(own, "a", "", "é"), own, 3, 4)
	checkFailed(t, failing(own, "\r\n", "\xff", "\x00"), own, 4, 4)
	checkFailed(t, failing(own, letters(300)), own, 300, 2)
	for _, beside := range []answer{{"lost", false, own}, {"lost", true, own}, {"", true, own}, {letters(301), true, own}} {
		checkFailed(t, []answer{beside}, own, 0, 1)
		checkFailed(t, append(pieces("a", "b"), beside), own, 2, 3)
		checkFailed(t, append(append(pieces("ab"), beside), pieces("c", "d")...), own, 2, 2)
	}
}

// P4: whatever the error is: also one of package api's own, one that is wrapped already, and one that is a nil pointer.
func TestGatherWrapsAnyError(t *testing.T) {
	var none *api.ReadError
	for _, e := range []error{api.ErrLong, api.ErrIdle, api.ErrSink, &api.ReadError{Count: api.Count{N: 7}, Err: api.ErrIdle}, none} {
		s := &script{answers: failing(e, "ab")}
		got, err := prose.Gather(s)
		r, ok := err.(*api.ReadError)
		if got != "" || !ok || r.Err != e || r.N != 2 || s.reads != 2 {
			t.Errorf("Gather of a source that fails with %T = %q, %T, %d reads", e, got, err, s.reads)
		}
	}
}

// P4: the first of the ends that happens.
func TestGatherEndsWithTheFirst(t *testing.T) {
	own := errors.New("its own")
	checkFailed(t, append(failing(own, "", ""), pieces("", "")...), own, 0, 3)
	checkFailed(t, append(failing(own, letters(300)), pieces("y")...), own, 300, 2)
	checkFailed(t, append(pieces("a", "", ""), answer{"", false, own}), own, 1, 4)
	checkFailed(t, append(pieces(letters(300)), answer{"y", false, own}), own, 300, 2)
	checkFailed(t, append(failing(own), failing(errors.New("another"))...), own, 0, 1)
	checkError(t, failing(own, "", "", ""), api.ErrIdle, 3)
	checkError(t, failing(own, letters(301)), api.ErrLong, 1)
	checkError(t, failing(own, letters(300), "", "y"), api.ErrLong, 3)
	checkError(t, pieces(letters(301), "", "", ""), api.ErrLong, 1)
	checkError(t, pieces("", "", letters(301), ""), api.ErrLong, 3)
	checkError(t, pieces("", "", "", letters(301)), api.ErrIdle, 3)
	checkError(t, []answer{{piece: letters(301), done: true}, {err: own}}, api.ErrLong, 1)
}

// P1: a Source that is nil has ended.
func TestGatherOfNoSource(t *testing.T) {
	if got, err := prose.Gather(nil); got != "" || err != nil {
		t.Errorf("Gather(nil) = %q, %v", got, err)
	}
}

// P1: it ends at sources that never do.
func TestGatherEndsAtEndlessSources(t *testing.T) {
	for _, c := range []struct {
		turn  []string
		want  error
		reads int
	}{{[]string{""}, api.ErrIdle, 3}, {[]string{"a"}, api.ErrLong, 301}, {[]string{"", "", "a"}, api.ErrLong, 903}, {[]string{"\r\n"}, api.ErrLong, 151}} {
		reads := 0
		got, err := prose.Gather(ask(func() (string, bool, error) {
			reads++
			return c.turn[(reads-1)%len(c.turn)], reads > 2000, nil // so that the test ends, if the call would not
		}))
		if got != "" || err != c.want || reads != c.reads {
			t.Errorf("Gather of %q for ever = %q, %v, %d reads, want %v, %d", c.turn, got, err, reads, c.want, c.reads)
		}
	}
}

// P1: it does not panic, even if its source does: here with the read of a nil pointer.
func TestGatherDoesNotPanic(t *testing.T) {
	var none *script
	got, err := prose.Gather(none)
	var r *api.ReadError
	if got != "" || !errors.As(err, &r) || r.N != 0 || r.Err == nil {
		t.Errorf("Gather of a source that panics = %q, %v", got, err)
	}
}

// P1: whatever sources answer: every row of up to four of these, held against the ends as the document lists them.
func TestGatherOfAllShortScripts(t *testing.T) {
	own := errors.New("its own")
	var choice []answer
	for _, p := range []string{"", "\r", "\n\xc3", "\xa9", letters(299)} {
		choice = append(choice, answer{p, false, nil}, answer{p, true, nil}, answer{p, false, own})
	}
	rows := [][]answer{nil}
	for range 4 {
		var longer [][]answer
		for _, row := range rows {
			for _, a := range choice {
				longer = append(longer, append(append([]answer{}, row...), a))
			}
		}
		rows = longer
	}
	for _, row := range rows {
		checkRow(t, append(row, answer{done: true}))
	}
}

// checkRow finds the read that ends a row, and asks for what that one comes to.
func checkRow(t *testing.T, row []answer) {
	t.Helper()
	raw := ""
	for i, a := range row {
		last3 := i >= 2 && raw == joined(row[:i-2])
		switch {
		case a.err != nil:
			checkFailed(t, row, a.err, len(raw), i+1)
			return
		case len(raw+a.piece) > 300:
			checkError(t, row, api.ErrLong, i+1)
			return
		case a.done:
			checkRegular(t, row[:i+1], raw+a.piece)
			return
		case a.piece == "" && last3:
			checkError(t, row, api.ErrIdle, i+1)
			return
		}
		raw += a.piece
	}
}

func joined(row []answer) string {
	out := ""
	for _, a := range row {
		out += a.piece
	}
	return out
}

// checkRegular asks for the regular text of some bytes.
func checkRegular(t *testing.T, row []answer, raw string) {
	t.Helper()
	want := strings.ReplaceAll(strings.ReplaceAll(string([]rune(raw)), "\r\n", "\n"), "\r", "\n")
	if !utf8.ValidString(want) {
		t.Fatalf("%q is not regular", want)
	}
	checkText(t, row, want)
}

// P2: an answer depends on the source alone: not on calls before, within or beside it.
func TestGatherDependsOnItsSourceAlone(t *testing.T) {
	own := errors.New("its own")
	for range 3 {
		checkText(t, doneWith("a\r", "\n\xc3"), "a\n\ufffd")
		checkFailed(t, failing(own, "abc\r", ""), own, 4, 3)
		checkError(t, pieces("", "", ""), api.ErrIdle, 3)
		checkText(t, doneWith("\nb", "\xa9"), "\nb\ufffd")
		checkError(t, pieces(letters(301)), api.ErrLong, 1)
		checkText(t, doneWith("", "", letters(300)), letters(300))
	}
	within := &script{answers: doneWith("a\r", "", "", "\nb")}
	got, err := prose.Gather(ask(func() (string, bool, error) {
		checkText(t, doneWith("", letters(300)), letters(300))
		checkError(t, pieces("", "", ""), api.ErrIdle, 3)
		return within.Read()
	}))
	if got != "a\nb" || err != nil {
		t.Errorf("Gather of a source that gathers = %q, %v", got, err)
	}
	var all sync.WaitGroup
	for i := range 8 {
		all.Go(func() {
			for range 50 {
				checkText(t, doneWith(each(i+1, "é\r")...), strings.Repeat("é\n", i+1))
				checkFailed(t, failing(own, each(i, "a")...), own, i, i+1)
			}
		})
	}
	all.Wait()
}

// P2: two errors of one source's kind are two: one may be written into without the other.
func TestGatherErrorsAreTheCallers(t *testing.T) {
	own := errors.New("its own")
	_, first := prose.Gather(&script{answers: failing(own, "ab")})
	first.(*api.ReadError).N = 99
	first.(*api.ReadError).Err = nil
	checkFailed(t, failing(own, "ab"), own, 2, 2)
}

// P3, P4: asked from outside.
func TestGatherFromOutside(t *testing.T) {
	for _, c := range []struct {
		in    plain.In
		none  bool
		text  string
		told  plain.Told
		reads int
	}{
		{plain.In{Text: "a\r\né", Cuts: []int{2, 2}}, false, "a\né", plain.Told{}, 4},
		{plain.In{Text: "a\r\né", Cuts: []int{2, 2}, With: true}, false, "a\né", plain.Told{}, 3},
		{plain.In{Text: "abcd", Cuts: []int{3}, FailAt: 2}, false, "", plain.Told{Err: plain.Read, N: 3}, 2},
		{plain.In{Text: "abcd", FailAt: 1, With: true}, false, "", plain.Told{Err: plain.Read}, 1},
		{plain.In{Text: "abcd", Cuts: []int{1, 0, 0, 0}}, false, "", plain.Told{Err: plain.Idle}, 4},
		{plain.In{Text: letters(301)}, false, "", plain.Told{Err: plain.Long}, 1},
		{plain.In{Text: "abcd"}, true, "", plain.Told{}, 0},
	} {
		text, told, reads := plain.Gather(c.in, c.none)
		if text != c.text || told != c.told || reads != c.reads {
			t.Errorf("plain.Gather(%+v, %v) = %q, %+v, %d, want %q, %+v, %d", c.in, c.none, text, told, reads, c.text, c.told, c.reads)
		}
	}
}
