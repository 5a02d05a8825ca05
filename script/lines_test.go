package script_test

import (
	"strings"
	"testing"

	"reclaim/api"
)

// P17.1: a line ends at a newline or at the text's end; an empty piece behind the last newline is none.
func TestEndsOfLines(t *testing.T) {
	bare := strings.TrimSuffix(machine, "\n")
	for _, text := range []string{bare, machine, machine + "\n", machine + "\n\n\n"} {
		wantRead(t, text, example())
		wantFault(t, "\n"+strings.Replace(text, "cache", "cash", 1), 2, api.ErrLine)
	}
	for _, lines := range []string{"0 pop\n1 push 5", "0 pop\n1 push 5\n", "\n0 pop\n\n\n1 push 5\n\n"} {
		wantMoves(t, lines, pop(0), push(1, 5))
	}
	wantFault(t, bare+" 0 pop", 1, api.ErrLine)
	wantFault(t, machine+"0\n.\n", 2, api.ErrLine)
	wantFault(t, machine+"0 push\n5\n", 2, api.ErrLine)
}

// P17.1: lines are numbered from 1 on, all of them, those too that mean nothing.
func TestNumbersOfLines(t *testing.T) {
	for _, empty := range []string{"\n", " \n", "\t\r \n", "#\n", "# 0 pop\n", "  #x\n", "\r\n"} {
		for count := range 5 {
			ahead := strings.Repeat(empty, count)
			wantFault(t, ahead+"0 pop", count+1, api.ErrLine)
			wantFault(t, ahead+machine+"pop\n", count+2, api.ErrLine)
			wantFault(t, ahead+machine+ahead+"0 push 05\n"+ahead, 2*count+2, api.ErrDigit)
			wantFault(t, ahead+machine+"0 pop\n"+ahead+"0 . 0", 2*count+3, api.ErrRange)
		}
	}
	count := 300000
	wantFault(t, machine+strings.Repeat("\n", count)+"?", count+2, api.ErrLine)
	wantFault(t, machine+strings.Repeat("0 .\n", 65536)+"0 .", 65538, api.ErrLong)
}

// P17.1: no line means anything.
func TestNothing(t *testing.T) {
	for _, text := range []string{"", "\n", "\n\n\n", " ", "\t", "\r", " \t\r", " \n\t\n\r", "#", "#\n", " # 0 pop\n#" + machine, "##", "# #\n\r\n", strings.Repeat("\n", 1<<20)} {
		wantFault(t, text, 0, api.ErrEarlyEnd)
	}
}

// blanks are some of all three kinds, alone and together.
func blanks() []string {
	return []string{" ", "\t", "\r", "  ", "\t\t", "\r\r", " \t\r", "\r \t ", strings.Repeat(" \r\t", 500)}
}

// P17.1: blanks of all three kinds, ahead of words, between and behind them.
func TestBlanks(t *testing.T) {
	bare := strings.TrimSuffix(machine, "\n")
	for _, blank := range blanks() {
		spread := func(line string) string { return strings.ReplaceAll(line, " ", blank) }
		for _, text := range []string{
			blank + bare + "\n0 add -5 50\n", bare + blank + "\n0 add -5 50" + blank, bare + "\n" + blank + "0 add -5 50\n", spread(bare) + "\n" + spread("0 add -5 50"),
			blank + spread(bare) + blank + "\n" + blank + "\n" + blank + spread("0 add -5 50") + blank + "\n" + blank,
		} {
			wantRead(t, text, example(), api.Move{Op: api.OpAdd, Arg: -5, Data: 50})
		}
		wantMoves(t, spread("* 1\n1 . 2\n0 op 7 8 9\n"), step(0), step(1), step(1), step(1), api.Move{Op: 7, Arg: 8, Data: 9})
	}
}

// notBlanks are bytes and runes that stand between no words: other spaces, controls, bytes that are no rune's.
func notBlanks() []string {
	out := []string{
		"\u0085", "\u00a0", "\u1680", "\u2000", "\u2003", "\u2028", "\u2029", "\u202f", "\u3000", "\ufeff", "\ufffd", "\U0001f600",
		"\xff", "\xc2", "\xe2\x80", "\xc0\xa0", "\xe0\x80\xa0", "\xed\xa0\x80", "\xf8\x88\x80\x80\xa0",
	}
	for b := range 256 {
		if !strings.ContainsRune(" \t\r\n", rune(b)) {
			out = append(out, string([]byte{byte(b)}))
		}
	}
	return out
}

// P17.1: bytes that are no blanks are parts of words: of one that is none then, or no number.
func TestOtherBytes(t *testing.T) {
	for _, s := range notBlanks() {
		isDigit, isComment := s[0] >= '0' && s[0] <= '9', s == "#"
		if isDigit {
			continue
		}
		wantFault(t, machine+"0"+s+"pop", 2, api.ErrLine)
		wantFault(t, machine+"0 pop"+s, 2, api.ErrLine)
		wantFault(t, machine+"0 push 5"+s, 2, api.ErrDigit)
		wantFault(t, machine+"0"+s+" push 5", 2, api.ErrDigit)
		if isComment {
			continue
		}
		wantFault(t, machine+"0 pop "+s, 2, api.ErrLine)
		wantFault(t, machine+"0 "+s+"pop", 2, api.ErrLine)
		wantFault(t, s+machine, 1, api.ErrLine)
		wantFault(t, s, 1, api.ErrLine)
		if s != "-" {
			wantFault(t, machine+s+"0 pop", 2, api.ErrLine)
			wantFault(t, machine+"0 push "+s+"5", 2, api.ErrLine)
		}
		wantMoves(t, "0 pop #"+s+"\n#"+s+" "+s, pop(0))
	}
}

// P17.1: comments alone, behind words, at a word's first byte only.
func TestComments(t *testing.T) {
	for _, comment := range []string{"#", "##", "# ", "#first", "# 0 pop", "#\t#\r#", "# machine threads", "#\x00\xff\u00a0", "# ."} {
		wantMoves(t, comment+"\n0 pop "+comment+"\n"+comment+"\n1 .\t"+comment, pop(0), step(1))
		wantRead(t, comment+"\n "+comment+"\n"+strings.TrimSuffix(machine, "\n")+"\r"+comment+"\n0 . 2 "+comment, example(), step(0), step(0))
		wantFault(t, machine+"0 push "+comment+"\n", 2, api.ErrLine)
		wantFault(t, machine+"0 push "+comment+" 5\n", 2, api.ErrLine)
		wantFault(t, "machine "+comment+" threads 2", 1, api.ErrLine)
		wantFault(t, comment, 0, api.ErrEarlyEnd)
	}
	wantFault(t, machine+"0 pop#\n", 2, api.ErrLine)
	wantFault(t, machine+"0 pop# first\n", 2, api.ErrLine)
	wantFault(t, machine+"0 po#p\n", 2, api.ErrLine)
	wantFault(t, machine+"0# pop\n", 2, api.ErrDigit)
	wantFault(t, machine+"0 push 5#\n", 2, api.ErrDigit)
	wantFault(t, machine+"0 push -#5\n", 2, api.ErrLine)
	wantFault(t, machine+".#\n", 2, api.ErrLine)
	wantFault(t, strings.TrimSuffix(machine, "\n")+"#", 1, api.ErrDigit)
	wantFault(t, machine+"# a comment ends with its line\n0 pop 1", 3, api.ErrLine)
}
