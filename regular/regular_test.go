package regular

import (
	"strings"
	"testing"
	"unicode/utf8"
)

func TestText(t *testing.T) {
	for _, c := range []struct{ raw, want string }{
		{"", ""},
		{"plain text", "plain text"},
		{"two\nlines\n", "two\nlines\n"},
		{"é€😀", "é€😀"},
		{"\ufeffa\ufffd\U0010ffff", "\ufeffa\ufffd\U0010ffff"},
		{"\t\v\x01\x7f\u0085\u2028", "\t\v\x01\x7f\u0085\u2028"},
		// Bytes that are no part of a rune: one sign each.
		{"\xff", "\ufffd"},
		{"\x80\x80", "\ufffd\ufffd"},
		{"a\xc3", "a\ufffd"},
		{"\xc3a", "\ufffda"},
		{"\xe2\x82", "\ufffd\ufffd"},
		{"\xf0\x9f\x98", "\ufffd\ufffd\ufffd"},
		{"\xc0\x80", "\ufffd\ufffd"},
		{"\xed\xa0\x80", "\ufffd\ufffd\ufffd"},
		{"\xf4\x90\x80\x80", "\ufffd\ufffd\ufffd\ufffd"},
		{"é\xa9", "é\ufffd"},
		// The rune 0.
		{"\x00", "\ufffd"},
		{"a\x00\x00b", "a\ufffd\ufffdb"},
		// Carriage returns.
		{"\r", "\n"},
		{"\r\n", "\n"},
		{"\n\r", "\n\n"},
		{"\r\r", "\n\n"},
		{"\r\r\n", "\n\n"},
		{"\r\n\n", "\n\n"},
		{"\r\n\r\n", "\n\n"},
		{"a\rb\r\nc\n\rd", "a\nb\nc\n\nd"},
		{"\r\x00\n", "\n\ufffd\n"},
		{"\r\xff\n", "\n\ufffd\n"},
	} {
		if got := Text(c.raw); got != c.want {
			t.Errorf("Text(%q) = %q, want %q", c.raw, got, c.want)
		}
	}
}

// inTurn does to a text, one behind the other, what the document asks for.
func inTurn(raw string) string {
	s := string([]rune(raw))
	s = strings.ReplaceAll(s, "\x00", "\ufffd")
	s = strings.ReplaceAll(s, "\r\n", "\n")
	return strings.ReplaceAll(s, "\r", "\n")
}

// Every text of up to five of these bytes: among them are whole runes of one to four bytes, and all that can be left of them.
func TestTextOfAllShortTexts(t *testing.T) {
	const signs = "a\x00\r\n\xc3\xa9\xe2\x82\xf0\x9f\xff"
	level := []string{""}
	for range 5 {
		var longer []string
		for _, head := range level {
			for i := range len(signs) {
				longer = append(longer, head+signs[i:i+1])
			}
		}
		for _, raw := range longer {
			checkText(t, raw)
		}
		level = longer
	}
}

func checkText(t *testing.T, raw string) {
	t.Helper()
	got := Text(raw)
	if want := inTurn(raw); got != want {
		t.Fatalf("Text(%q) = %q, want %q", raw, got, want)
	}
	if !utf8.ValidString(got) || strings.ContainsAny(got, "\x00\r") {
		t.Fatalf("Text(%q) = %q, which is not regular", raw, got)
	}
	if again := Text(got); again != got {
		t.Fatalf("Text(%q) = %q, though it was regular", got, again)
	}
}
