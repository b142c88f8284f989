package plan

import (
	"math"

	"twine/api"
)

// need tells how much room a volume must have for what is carried to it.
func need(cells []api.Cell, items []api.Item, volume int) api.Room {
	var names, bytes account
	for _, item := range items {
		if item.To != volume || item.What != api.Carry {
			continue
		}
		c := cells[item.Cell]
		names.bring(c.Names, c.Had.Names)
		bytes.bring(c.Bytes, c.Had.Bytes)
	}
	return api.Room{Names: names.most, Bytes: bytes.most}
}

// account: how much more than at the beginning a volume holds, and the most that it held.
type account struct{ balance, most int }

// bring adds what comes, ahead of taking off what that goes over: till then both stand there.
func (a *account) bring(come, gone int) {
	a.balance = plus(a.balance, come)
	a.most = max(a.most, a.balance)
	a.balance = minus(a.balance, gone)
}

// plus stops at the greatest int; n isn't below 0.
func plus(sum, n int) int { return min(sum, math.MaxInt-n) + n }

// minus stops at the least int; n isn't below 0.
func minus(sum, n int) int { return max(sum, math.MinInt+n) - n }
