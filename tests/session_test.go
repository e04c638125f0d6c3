package tests

import (
	"fmt"
	"slices"
	"strconv"
	"strings"
	"testing"

	"loop.example/typesetting/impl"
)

// modelSession is a model of chapter 26: what was set, and what was printed.
type modelSession struct {
	words  []string
	width  int
	output string
}

// wantOutput returns the output of a session.
func wantOutput(list []string) string {
	m := modelSession{width: 60}
	for i, line := range list {
		if i < 30 {
			m.run(line)
		}
	}
	return m.output
}

// run executes a line.
func (m *modelSession) run(line string) {
	switch {
	case strings.HasPrefix(line, "words "):
		words := strings.Split(line, " ")[1:]
		m.answer(len(words) <= 40 && !slices.ContainsFunc(words, isNoWord), func() { m.words = words })
	case strings.HasPrefix(line, "width "):
		n := slices.Index(decimals(), line[6:])
		m.answer(n >= 0, func() { m.width = 20 + n })
	case line == "fill":
		for _, filled := range impl.FillText(m.words, m.width) {
			m.output += filled + "\n"
		}
	case line == "ends":
		m.output += strings.Trim(fmt.Sprint(impl.WrapWords(m.words, m.width)), "[]") + "\n"
	case line == "cost":
		cost, _ := impl.WrapCost(m.words, m.width, impl.WrapWords(m.words, m.width))
		m.output += fmt.Sprintln(cost)
	case line == "count":
		m.output += fmt.Sprintln(len(m.words))
	default:
		m.output += "what\n"
	}
}

// answer prints whether a line succeeds, and lets it change the session if it does.
func (m *modelSession) answer(ok bool, change func()) {
	if ok {
		change()
		m.output += "ok\n"
	} else {
		m.output += "no\n"
	}
}

// isNoWord reports whether a text is not a word.
func isNoWord(s string) bool {
	return s == "" || len(s) > 20 || strings.Trim(s, "abcdefghijklmnopqrstuvwxyz") != ""
}

// decimals returns all widths in decimal.
func decimals() []string {
	var list []string
	for n := 20; n <= 60; n++ {
		list = append(list, strconv.Itoa(n))
	}
	return list
}

// setWords returns the line that sets words.
func setWords(words []string) string {
	return "words " + strings.Join(words, " ")
}

// setWidth returns the line that sets a width.
func setWidth(width int) string {
	return fmt.Sprintf("width %d", width)
}

// printing are the lines that print what was set.
var printing = []string{"fill", "ends", "cost", "count"}

// failingWidths returns lines that fail to set a width.
func failingWidths() []string {
	var list []string
	for _, number := range []string{
		"", " ", "020", "0020", "+20", "-20", "20 ", " 20", "20 30", "20.0", "2e1", "0x20", "0b101000", "0o40", "2_0", "20,", "20\n", "20\x00", "twenty", "a", "fill", "N",
		"0", "00", "-0", "1", "2", "9", "19", "019", "61", "060", "060 ", "200", "2000", "10000", "4294967316", "-4294967276", "18446744073709551636", "9223372036854775828",
		"\u0662\u0660", "\uff12\uff10", strings.Repeat("0", 1000) + "20", strings.Repeat("9", 1000),
	} {
		list = append(list, "width "+number)
	}
	for _, n := range invalidWidths() {
		list = append(list, setWidth(n))
	}
	return list
}

// failingWords returns lines that fail to set words.
func failingWords() []string {
	list := []string{
		"words ", "words  ", "words  a", "words a ", "words a  b", "words  a b", "words a b ", "words a\tb", "words a,b", "words a, b", "words a\nb", "words a\n", "words \na",
		"words A", "words a B", "words a b1", "words a 1 b", "words a-b", "words a b.", "words \u00e4", "words a \xff", "words a\u00a0b", "words words: a",
		setWords(slices.Repeat(wordsOf(1), 41)), setWords(slices.Repeat(wordsOf(20), 41)), setWords(slices.Repeat(wordsOf(1), 10000)),
		setWords(wordsOf(21)), setWords(wordsOf(1, 21)), setWords(wordsOf(21, 1)), setWords(wordsOf(10000)), "words " + strings.Repeat(" ", 10000),
	}
	for _, words := range invalidWords() {
		// Behind the command, "a b" is not one invalid word, but two others.
		if !slices.Contains(words, "a b") {
			list = append(list, setWords(words))
		}
	}
	slices.Sort(list)
	return list
}

// unknownLines are lines that are no commands.
func unknownLines() []string {
	list := []string{
		"", " ", "\n", "help", "what", "ok", "no", "0", "20", "word", "word a", "wordsa", "words:", "words\ta", "words\n", "Words a", "WORDS a", "wordss a", " words a", "  words a",
		"width", "width20", "width:20", "width=20", "width\t20", "Width 20", "widths 20", " width 20", "words", "set words a", "a b c", "\x00", "\xff", "fill\x00",
		strings.Repeat("fill", 1000), strings.Repeat(" ", 1000),
	}
	for _, command := range printing {
		list = append(list, command+" ", " "+command, command+" 1", command+" a", command+"\n", command+"s", command+":", strings.ToUpper(command), command[1:], command+" "+command)
	}
	return list
}

// randomLine returns a line of a session, mostly one that succeeds.
func randomLine(r randomSource, failing []string) string {
	switch r.Intn(10) {
	case 0, 1:
		if words := manyWords(r, 40); len(words) > 0 {
			return setWords(words)
		}
		return "words a"
	case 2, 3:
		return setWidth(20 + r.Intn(41))
	case 4:
		return failing[r.Intn(len(failing))]
	}
	return printing[r.Intn(len(printing))]
}

// randomSession returns up to n lines, some of which are failing ones.
func randomSession(r randomSource, n int, failing []string) []string {
	var list []string
	for range r.Intn(n + 1) {
		list = append(list, randomLine(r, failing))
	}
	return list
}

// equalOutput reports an error if the output of a session is not as expected.
func equalOutput(t *testing.T, list []string, want string) {
	t.Helper()
	if s := impl.RunSession(list); s != want {
		t.Errorf("RunSession(%.300q) = %.300q, want %.300q", fmt.Sprint(list), s, want)
	}
}

// Promise 129.
func TestP129OutputDependsOnPrecedingLines(t *testing.T) {
	r := fixed()
	failing := slices.Concat(failingWidths(), failingWords(), unknownLines())
	for range 500 {
		list := randomSession(r, 36, failing)
		output := impl.RunSession(list)
		equalOutput(t, list, wantOutput(list))
		before := ""
		for n := range len(list) + 1 {
			s := impl.RunSession(list[:n])
			if !strings.HasPrefix(output, s) || !strings.HasPrefix(s, before) {
				t.Errorf("RunSession of the first %d lines of %q = %q, which is no beginning of %q", n, list, s, output)
			}
			if n > 30 && s != before {
				t.Errorf("line %d of %q produces %q", n, list, s[len(before):])
			}
			if added := s[len(before):]; n > 0 && n <= 30 && list[n-1] != "fill" && strings.Count(added, "\n") != 1 || added != "" && added[len(added)-1] != '\n' {
				t.Errorf("line %d of %q produces %q", n, list, added)
			}
			before = s
		}
	}
}

func TestP129LinesBehindMaxCommandsProduceNothing(t *testing.T) {
	for _, n := range []int{29, 30, 31, 32, 100, 10000} {
		most := min(n, 30)
		equalOutput(t, slices.Repeat([]string{"count"}, n), strings.Repeat("0\n", most))
		equalOutput(t, slices.Repeat([]string{"help"}, n), strings.Repeat("what\n", most))
		equalOutput(t, slices.Repeat([]string{""}, n), strings.Repeat("what\n", most))
		equalOutput(t, slices.Repeat([]string{"width 61"}, n), strings.Repeat("no\n", most))
		// Lines without output count, too.
		equalOutput(t, append(slices.Repeat([]string{"fill"}, n), "count"), strings.Repeat("0\n", max(0, min(1, 30-n))))
		equalOutput(t, append(slices.Repeat([]string{"words a"}, n), "fill"), strings.Repeat("ok\n", most)+strings.Repeat("a\n", max(0, min(1, 30-n))))
	}
	if impl.MaxCommands != 30 {
		t.Errorf("MaxCommands = %d", impl.MaxCommands)
	}
}

func TestP129SessionsBeginAnew(t *testing.T) {
	for range 3 {
		equalOutput(t, []string{"count", "words aaaaaaaaaa bbbbbbbbb cc", "width 20", "ends"}, "0\nok\nok\n2 3\n")
		equalOutput(t, []string{"fill", "ends", "cost", "count", "words aaaaaaaaaa bbbbbbbbb cc", "ends"}, "\n0\n0\nok\n3\n")
	}
}

func TestP129UnknownLinesProduceWhat(t *testing.T) {
	for _, line := range unknownLines() {
		equalOutput(t, []string{line}, "what\n")
		equalOutput(t, []string{"words a b", line, "fill", "count"}, "ok\nwhat\na b\n2\n")
	}
	commands := append([]string{"words a b", "width 30"}, printing...)
	for _, command := range commands {
		changedTexts(command, " aswf0\n", func(s string) {
			equalOutput(t, []string{s, "fill", "ends", "cost", "count"}, wantOutput([]string{s, "fill", "ends", "cost", "count"}))
		})
	}
}

// Promise 130.
func TestP130SessionsFillTexts(t *testing.T) {
	someWords(500, 40, func(words []string, width int) {
		if len(words) == 0 {
			return
		}
		ends := impl.WrapWords(words, width)
		cost, _ := impl.WrapCost(words, width, ends)
		var numbers []string
		for _, end := range ends {
			numbers = append(numbers, strconv.Itoa(end))
		}
		filled := strings.Join(impl.FillText(words, width), "\n") + "\n"
		rest := strings.Join(numbers, " ") + "\n" + strconv.Itoa(cost) + "\n" + strconv.Itoa(len(words)) + "\n"
		equalOutput(t, []string{setWords(words), setWidth(width), "fill", "ends", "cost", "count"}, "ok\nok\n"+filled+rest)
		equalOutput(t, []string{setWidth(width), setWords(words), "fill", "ends", "cost", "count"}, "ok\nok\n"+filled+rest)
	})
}

func TestP130TheLastWordsAndWidthCount(t *testing.T) {
	equalOutput(t, []string{
		"words aaaaaaaaaa bbbbbbbbb cc dddddddddd e", "ends", "width 20", "ends", "width 32", "ends", "fill",
		"words a", "fill", "count", "words words width fill", "fill", "width 60", "width 20", "fill",
	}, "ok\n5\nok\n2 5\nok\n3 5\naaaaaaaaaa     bbbbbbbbb      cc\ndddddddddd e\nok\na\n1\nok\nwords width fill\nok\nok\nwords width fill\n")
	// Without a width, it is MaxText.
	fits := wordsOf(20, 19, 19)
	equalOutput(t, []string{setWords(fits), "ends", "cost", "fill"}, "ok\n3\n0\n"+strings.Join(fits, " ")+"\n")
	long := wordsOf(20, 20, 19)
	equalOutput(t, []string{setWords(long), "ends", "cost"}, "ok\n2 3\n361\n")
	equalOutput(t, []string{setWords(slices.Repeat(wordsOf(1), 40)), "count", "ends"}, "ok\n40\n30 40\n")
	equalOutput(t, []string{setWords(wordsOf(9, 9, 9, 20)), "width 20", "ends", "cost", "fill"},
		"ok\nok\n1 3 4\n122\naaaaaaaaa\nbbbbbbbbb  ccccccccc\ndddddddddddddddddddd\n")
}

func TestP130AllWidths(t *testing.T) {
	for n := -5; n <= 100; n++ {
		want := "ok\nno\n3\n"
		if n >= 20 && n <= 60 {
			want = "ok\nok\n3\n"
		}
		equalOutput(t, []string{"words a b c", setWidth(n), "count"}, want)
		equalOutput(t, []string{fmt.Sprintf("width 0%d", n), fmt.Sprintf("width +%d", n), fmt.Sprintf("width %d ", n)}, "no\nno\nno\n")
	}
}

// Promise 131.
func TestP131FailedCommandsChangeNothing(t *testing.T) {
	for _, line := range slices.Concat(failingWidths(), failingWords()) {
		equalOutput(t, []string{line}, "no\n")
		equalOutput(t, append([]string{line}, printing...), "no\n\n0\n0\n")
	}
	r := fixed()
	for range 40 {
		words, width := append(manyWords(r, 39), "aaa"), 20+r.Intn(41)
		begin := []string{setWords(words), setWidth(width)}
		want := strings.TrimPrefix(impl.RunSession(slices.Concat(begin, printing)), "ok\nok\n")
		for _, line := range slices.Concat(failingWidths(), failingWords()) {
			equalOutput(t, slices.Concat(begin, []string{line}, printing), "ok\nok\nno\n"+want)
		}
		for _, line := range unknownLines() {
			equalOutput(t, slices.Concat(begin, []string{line}, printing), "ok\nok\nwhat\n"+want)
		}
	}
}

func TestP131WordsThatFailKeepAllWords(t *testing.T) {
	equalOutput(t, []string{
		"words aaa bb c", "words d e F", "fill", "words d  e", "fill", "words ", "count", "words", "count", setWords(slices.Repeat(wordsOf(1), 41)), "count",
		setWords(slices.Repeat(wordsOf(1), 40)), "count", "words d e", "fill",
	}, "ok\nno\naaa bb c\nno\naaa bb c\nno\n3\nwhat\n3\nno\n3\nok\n40\nok\nd e\n")
	equalOutput(t, []string{
		"words aaaaaaaaaa bbbbbbbbbb", "width 21", "ends", "width 20", "ends", "width 021", "ends", "width 61", "ends", "width", "ends", "width ", "ends", "width 21", "ends",
	}, "ok\nok\n2\nok\n1 2\nno\n1 2\nno\n1 2\nwhat\n1 2\nno\n1 2\nok\n2\n")
}

// Promise 132.
func TestP132AnEmptySessionPrintsNothing(t *testing.T) {
	equalOutput(t, nil, "")
	equalOutput(t, []string{}, "")
	equalOutput(t, []string{"fill"}, "")
	equalOutput(t, []string{"count"}, "0\n")
	equalOutput(t, []string{"fill", "count", "fill"}, "0\n")
	// There are no ends, but their line ends.
	equalOutput(t, []string{"ends"}, "\n")
	equalOutput(t, []string{"cost"}, "0\n")
	for n := 20; n <= 60; n++ {
		equalOutput(t, []string{setWidth(n), "fill", "count", "ends", "cost"}, "ok\n0\n\n0\n")
	}
}

func TestSessionsAreNotChanged(t *testing.T) {
	list := []string{"words a b", "width 20", "fill", "help", "count"}[:4]
	kept := slices.Clone(list[:5])
	for range 2 {
		equalOutput(t, list, "ok\nok\na b\nwhat\n")
	}
	if !slices.Equal(list[:5], kept) {
		t.Errorf("the lines became %q", list[:5])
	}
}
