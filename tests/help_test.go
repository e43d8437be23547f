package tests

import "slices"

// allTexts returns every string of at most n bytes, each of them from alphabet.
func allTexts(alphabet string, n int) []string {
	texts := []string{""}
	last := texts
	for range n {
		var longer []string
		for _, s := range last {
			for i := range len(alphabet) {
				longer = append(longer, s+alphabet[i:i+1])
			}
		}
		texts = append(texts, longer...)
		last = longer
	}
	return texts
}

// oddTexts returns strings that are no text in UTF-8, or look like what they are not.
func oddTexts() []string {
	every := make([]byte, 256)
	for i := range every {
		every[i] = byte(i)
	}
	return []string{
		"", "\x00", "\xff", "\xc3\xa9", "\xc3", "\xa9", "\xed\xa0\x80", "\xf4\x90\x80\x80", "\ufffd", "é1", "1é", "aé", "a\x00",
		"\u0661\u0662", "\uff11", "\u2212" + "1", "²", "½", "a\u0301", "\u0430", "ａ", "\ufeff1", "1\u00a0", "\r\n", "a\r\nb", "\v\f\t",
		string(every), string(every) + string(every),
	}
}

// roomy returns a slice with the elements of l and with marked elements behind them, and the whole of it.
func roomy(l ...string) (part []string, whole []string) {
	whole = append(slices.Clone(l), "spare", "spare", "spare")
	return whole[:len(l)], whole
}
