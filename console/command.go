package console

import (
	"slices"

	"assent/api"
)

// many is more words than any script has.
const many = api.MaxText

// command is what a line may begin with. What it plays reads all words ahead of all else: a word that can't stand there is told first.
type command struct {
	name        string
	least, most int // how many words stand behind the name
	play        func(*play, *words) string
}

func commands() []command {
	return []command{
		{"chain", 2, 2, (*play).chain},
		{"account", 3, 3, (*play).account},
		{"param", 2, 2, (*play).param},
		{"start", 1, many, (*play).start},
		{"deliver", 1, 1, func(p *play, w *words) string { return p.deliver(w, false) }},
		{"again", 1, 1, func(p *play, w *words) string { return p.deliver(w, true) }},
		{"drop", 1, 1, (*play).drop},
		{"tick", 2, 2, (*play).tick},
		{"rounds", 1, 1, (*play).rounds},
		{"fail", 3, 3, (*play).fail},
		{"crash", 2, many, (*play).crash},
		{"pay", 5, 5, (*play).pay},
		{"bond", 4, 4, func(p *play, w *words) string { return p.stake(w, api.TxBond) }},
		{"unbond", 4, 4, func(p *play, w *words) string { return p.stake(w, api.TxUnbond) }},
		{"free", 3, 3, (*play).free},
		{"vote", 7, 7, (*play).vote},
		{"propose", 4, 4, (*play).propose},
		{"pending", 0, 0, (*play).tellPending},
		{"node", 1, 1, (*play).tellNode},
		{"block", 2, 2, (*play).tellBlock},
		{"account?", 2, 2, (*play).tellAccount},
		{"council", 1, 1, (*play).tellCouncil},
		{"pool", 1, 1, (*play).tellPool},
		{"blame", 0, 0, (*play).tellBlame},
	}
}

// commandOf is the command of a line, which has as many words as it wants.
func commandOf(all []string) command {
	known := commands()
	at := slices.IndexFunc(known, func(c command) bool { return c.name == all[0] })
	if at < 0 {
		panic(refused{api.ErrWord})
	}
	c, behind := known[at], len(all)-1
	if behind < c.least || behind > c.most {
		panic(refused{api.ErrLine})
	}
	return c
}
