package shell

import "strings"

// command is what a line's first word stands for: the form of the words behind it, and what is done. (Of a block it is done with the lines up to its end.)
type command struct {
	form  string // a letter for each word; with a * behind it, for any number of them
	play  func(s *session, args []value)
	block func(s *session, lines []string)
}

// commands tells all commands by their words.
func commands() map[string]command {
	return map[string]command{
		"index": {block: (*session).addIndex},
		"make":  {block: (*session).makePackage},

		"apply":  {form: "Q*", play: (*session).apply},
		"plan":   {form: "Q*", play: (*session).plan},
		"sweep":  {play: (*session).sweep},
		"undo":   {play: (*session).undo},
		"hold":   {form: "W", play: (*session).hold},
		"free":   {form: "W", play: (*session).free},
		"pin":    {form: "AN", play: (*session).pin},
		"unpin":  {play: (*session).unpin},
		"budget": {form: "N", play: (*session).setBudget},
		"forget": {play: (*session).forget},

		"list":    {play: (*session).list},
		"paths":   {play: (*session).paths},
		"cat":     {form: "W", play: (*session).cat},
		"owner":   {form: "W", play: (*session).owner},
		"orphans": {play: (*session).orphans},
		"history": {play: (*session).history},
		"seq":     {play: (*session).seq},
		"why":     {form: "W", play: (*session).why},
		"blame":   {form: "Q*", play: (*session).blame},
		"audit":   {play: (*session).audit},
		"repair":  {play: (*session).repair},
		"mark":    {form: "WM", play: (*session).mark},

		"fuse":     {form: "N", play: (*session).fuse},
		"crash":    {form: "N*", play: (*session).crash},
		"reopen":   {play: (*session).reopen},
		"capacity": {form: "N", play: (*session).capacity},
		"raw":      {form: "WX", play: (*session).raw},
		"loss":     {form: "W", play: (*session).loss},
		"sync":     {play: (*session).sync},
		"files":    {play: (*session).files},
		"calls":    {play: (*session).calls},
	}
}

// find tells the command of a line and what its words say, or that the line is none.
func find(table map[string]command, words []string) (command, []value, bool) {
	if len(words) == 0 {
		return command{}, nil, false
	}
	c, is := table[words[0]]
	if !is {
		return command{}, nil, false
	}
	args, is := argsOf(c.form, words[1:])
	return c, args, is
}

// argsOf reads words by a form.
func argsOf(form string, words []string) ([]value, bool) {
	if letter, many := strings.CutSuffix(form, "*"); many {
		form = strings.Repeat(letter, len(words))
	}
	if len(words) != len(form) {
		return nil, false
	}
	var args []value
	for i, word := range words {
		v, is := valueOf(form[i], word)
		if !is {
			return nil, false
		}
		args = append(args, v)
	}
	return args, true
}
