package script_test

import (
	"errors"
	"strconv"
	"strings"
	"testing"

	"shardkeep/api"
	"shardkeep/script"
)

// P160: as many lines as may be, and more.
func TestHowManyLines(t *testing.T) {
	for _, count := range []int{0, 1, 2, 99, 100} {
		run(t, make([]string, count))
	}
	run(t, nil)
	for _, count := range []int{101, 102, 200, 356, 5000, 65536 + 100} {
		for _, line := range []string{"", "world a 1 1", "fly"} {
			lines := make([]string, count)
			for i := range lines {
				lines[i] = line
			}
			if got, err := script.Run(lines); len(got) != 0 || err != api.ErrBound || !errors.Is(err, api.ErrBound) {
				t.Errorf("%d lines: %d answers, %v", count, len(got), err)
			}
		}
	}
}

// P160: the last line of as many as may be is obeyed as the first one is.
func TestTheLastLine(t *testing.T) {
	tells(t, after(times(98, "world a 1 1", "ok"), "put 0 x", "ok", "fly", "1")...)
}

// P160: of n nodes each has a shard.
func TestAWorldOfNodes(t *testing.T) {
	for n := 1; n <= api.MaxShards; n++ {
		count := strconv.Itoa(n)
		tells(t, "world "+many(12)+" "+count+" 1", "ok", "put 3 x", "ok", "fly", count)
		tells(t, "world "+many(16)+" "+count+" "+count, "ok", "get 5", "ok", "fly", count, "configs", "1 0", "events", "nothing")
	}
	tells(t, "world a-1,0,-,zzzzzzzzzzzzzzzz 4 2", "ok", "down a-1", "ok", "down 0", "ok", "down -", "ok", "down zzzzzzzzzzzzzzzz", "ok", "down z", "shardkeep: none")
}

// P160: k shards are enough: of five nodes two may be down where one is, but one alone where three are.
func TestAWorldOfSoManyShardsThatAreEnough(t *testing.T) {
	tells(t, "world a,b,d,e,f 5 1", "ok", "down a", "ok", "down b", "ok", "put 0 x", "ok", "all", "16", "state 0", "idle", "events", "0 put 1.0 x")
	tells(t, "world a,b,d,e,f 5 3", "ok", "down a", "ok", "down b", "ok", "put 0 x", "ok", "all", "8", "state 0", "looking", "events", "nothing",
		"up b", "ok", "again 0", "ok", "all", "18", "state 0", "idle", "events", "0 put 1.0 x")
}

// P160: a new world has nothing of the one before.
func TestAnotherWorld(t *testing.T) {
	tells(t, "world a 1 1", "ok", "put 0 x", "ok", "all", "4", "change b", "ok", "all", "4", "put 2 y", "ok", "down b", "ok", "configs", "2 1", "fly", "1",
		"world b 1 1", "ok", "fly", "0", "all", "0", "state 2", "idle", "events", "nothing", "configs", "1 0", "go 0", "shardkeep: none", "down a", "shardkeep: none",
		"get 2", "ok", "all", "2", "events", "2 get none", "put 2 y", "ok", "all", "4", "events", "2 get none, 2 put 1.2 y")
}

// P160: what is put is got, by whichever client.
func TestPutAndGet(t *testing.T) {
	tells(t, "world a,b,d 3 1", "ok", "put 5 Ab0zZ9", "ok", "state 5", "looking", "fly", "3", "all", "12", "state 5", "idle",
		"get 4", "ok", "state 4", "looking", "all", "12", "put 4 9", "ok", "all", "12", "get 5", "ok", "all", "12",
		"events", "5 put 1.5 Ab0zZ9, 4 get 1.5 Ab0zZ9, 4 put 2.4 9, 5 get 2.4 9")
	tells(t, "world a 1 1", "ok", "put 0 x", "ok", "put 0 x", "shardkeep: held", "get 0", "shardkeep: held", "put 6 x", "shardkeep: bound", "get 6", "shardkeep: bound",
		"put 9 x", "shardkeep: bound", "get 9", "shardkeep: bound", "fly", "1")
}

// P160: texts of all letters and digits, and of as many as an object may have.
func TestTexts(t *testing.T) {
	long := strings.Repeat("x", api.MaxText)
	for _, text := range []string{"a", "z", "A", "Z", "0", "9", "00", "put", "none", "abcdefghijklmnopqrstuvwxyzABCDEFGHIJKLMNOPQRSTUVWXYZ0123456789", long} {
		tells(t, "world a,b 2 2", "ok", "put 0 "+text, "ok", "all", "8", "get 1", "ok", "all", "8", "events", "0 put 1.0 "+text+", 1 get 1.0 "+text)
	}
	tells(t, "world a,b 2 2", "ok", "put 0 "+long+"x", "shardkeep: bound", "put 0 "+long+long, "shardkeep: bound", "fly", "0", "state 0", "idle")
}

// P160: the message of that number goes.
func TestGo(t *testing.T) {
	tells(t, "world a 1 1", "ok", "put 0 x", "ok", "get 1", "ok", "go 2", "shardkeep: none", "go 99999", "shardkeep: none",
		"go 1", "ok", "go 1", "ok", "state 1", "idle", "state 0", "looking", "fly", "1",
		"go 0", "ok", "go 1", "shardkeep: none", "go 0", "ok", "state 0", "keeping", "go 0", "ok", "go 0", "ok", "go 0", "shardkeep: none", "state 0", "idle",
		"events", "1 get none, 0 put 1.0 x")
	tells(t, "world a,b 2 2", "ok", "put 0 x", "ok", "get 1", "ok", "go 4", "shardkeep: none", "go 3", "ok", "go 2", "ok", "go 3", "ok", "go 2", "ok", "events", "1 get none",
		"go 0", "ok", "go 1", "ok", "state 0", "looking", "fly", "1", "go 0", "ok", "go 0", "ok", "state 0", "keeping", "fly", "2", "go 1", "ok", "go 1", "ok", "fly", "1", "all", "2", "events", "1 get none, 0 put 1.0 x")
}

// P160: all that fly, and all that is sent then, how many they are.
func TestAll(t *testing.T) {
	tells(t, "world a,b,d 3 1", "ok", "all", "0", "put 0 x", "ok", "all", "12", "all", "0", "down a", "ok", "get 1", "ok", "all", "10", "fly", "0",
		"down b", "ok", "down d", "ok", "get 2", "ok", "all", "3", "state 2", "looking", "all", "0")
	tells(t, "world "+many(12)+" 12 12", "ok", "put 0 a", "ok", "put 1 b", "ok", "put 2 c", "ok", "put 3 d", "ok", "put 4 e", "ok", "put 5 f", "ok", "fly", "72", "all", "288", "fly", "0")
}

// P160: the message of that number is lost, or doubled right behind itself.
func TestDropAndTwice(t *testing.T) {
	tells(t, "world a 1 1", "ok", "drop 0", "shardkeep: none", "twice 0", "shardkeep: none", "put 0 x", "ok", "drop 1", "shardkeep: none", "twice 1", "shardkeep: none",
		"twice 0", "ok", "fly", "2", "drop 0", "ok", "fly", "1", "drop 0", "ok", "fly", "0", "drop 0", "shardkeep: none", "all", "0", "state 0", "looking")
	tells(t, "world a,b 2 2", "ok", "put 0 x", "ok", "drop 1", "ok", "all", "2", "state 0", "looking", "again 0", "ok", "drop 0", "ok", "all", "6", "events", "0 put 1.0 x")
	tells(t, "world a 1 1", "ok", "put 0 x", "ok", "get 1", "ok", "twice 0", "ok", "go 2", "ok", "go 2", "ok", "events", "1 get none", "fly", "2")
}

// P160: twice where no more may fly.
func TestTwiceWhereAllIsFull(t *testing.T) {
	pairs := []string{"world " + many(12) + " 12 1", "ok"}
	for who := range api.MaxClients {
		pairs = append(pairs, "get "+strconv.Itoa(who), "ok")
	}
	pairs = after(pairs, "fly", "72", "twice 71", "ok", "twice 73", "shardkeep: none")
	pairs = after(pairs, times(47, "twice 0", "ok")...)
	tells(t, after(pairs, "fly", "120", "twice 0", "shardkeep: full", "twice 120", "shardkeep: none", "fly", "120", "drop 119", "ok", "twice 118", "ok", "twice 0", "shardkeep: full", "again 0", "ok", "fly", "120")...)
}

// P160: a node that is down hears nothing, until it is up.
func TestDownAndUp(t *testing.T) {
	tells(t, "world a 1 1", "ok", "up a", "ok", "down a", "ok", "down a", "ok", "put 0 x", "ok", "all", "1", "state 0", "looking", "events", "nothing",
		"up a", "ok", "again 0", "ok", "all", "4", "events", "0 put 1.0 x",
		"down b", "shardkeep: none", "up b", "shardkeep: none", "down c0", "shardkeep: none", "up mover", "shardkeep: none", "down A", "shardkeep: none", "up a,a", "shardkeep: none", "down !", "shardkeep: none")
}

// P160: other nodes, of which as many have shards; it is theirs when all has come.
func TestChange(t *testing.T) {
	tells(t, "world a,b,d 3 1", "ok", "put 0 x", "ok", "all", "12", "change e,f,g,h", "ok", "configs", "2 0", "fly", "3", "change a,b,d", "shardkeep: held",
		"all", "12", "configs", "2 1", "down a", "ok", "down b", "ok", "down d", "ok", "get 1", "ok", "all", "12", "events", "0 put 1.0 x, 1 get 1.0 x",
		"change a,b", "shardkeep: few", "change a,c0,d", "shardkeep: exist", "change a,B,d", "shardkeep: name", "change a,,d", "shardkeep: name", "change a,d,a", "shardkeep: exist", "change "+many(17), "shardkeep: bound", "configs", "2 1", "fly", "0")
	tells(t, "world "+many(15)+" 1 1", "ok", "change p,q", "shardkeep: full", "change p", "ok", "all", "2", "change q", "shardkeep: full", "down q", "shardkeep: none", "down p", "ok", "configs", "2 1")
}

// P160: as many configurations as there may be.
func TestChangeAgainAndAgain(t *testing.T) {
	pairs := []string{"world a,b 1 1", "ok", "put 0 x", "ok", "all", "4"}
	for i := 1; i < api.MaxConfigs; i++ {
		count := strconv.Itoa(i)
		pairs = after(pairs, "change "+many(2+i%2), "ok", "all", "4", "configs", strconv.Itoa(i+1)+" "+count)
	}
	tells(t, after(pairs, "change a", "shardkeep: full", "change !", "shardkeep: full", "configs", "12 11", "get 5", "ok", "all", "4", "events", "0 put 1.0 x, 5 get 1.0 x")...)
}

// P160
func TestAgain(t *testing.T) {
	tells(t, "world a,b 2 1", "ok", "again 0", "shardkeep: none", "again 6", "shardkeep: bound", "again 9", "shardkeep: bound", "put 3 x", "ok", "fly", "2", "again 0", "shardkeep: none",
		"again 3", "ok", "fly", "4", "drop 0", "ok", "drop 0", "ok", "drop 0", "ok", "drop 0", "ok", "again 3", "ok", "go 0", "ok", "go 0", "ok", "go 0", "ok", "go 0", "ok",
		"state 3", "keeping", "again 3", "shardkeep: none", "all", "4", "again 3", "shardkeep: none", "events", "3 put 1.3 x")
}

// P160: one that is refused begins anew where there is a newer configuration.
func TestRetry(t *testing.T) {
	tells(t, "world a 1 1", "ok", "retry 0", "shardkeep: none", "retry 6", "shardkeep: bound", "put 0 x", "ok", "retry 0", "shardkeep: none", "change b", "ok",
		"go 1", "ok", "go 0", "ok", "go 1", "ok", "state 0", "refused", "again 0", "shardkeep: none", "put 0 y", "shardkeep: held", "retry 0", "shardkeep: old", "retry 1", "shardkeep: none",
		"all", "1", "configs", "2 1", "state 0", "refused", "retry 0", "ok", "state 0", "looking", "retry 0", "shardkeep: none", "all", "4", "events", "0 put 1.0 x", "state 0", "idle")
}

// P160: of each client, and of one that is none.
func TestState(t *testing.T) {
	tells(t, "world a,b 2 1", "ok", "put 0 x", "ok", "all", "8", "get 2", "ok", "get 4", "ok", "go 2", "ok", "go 2", "ok", "go 2", "ok", "go 2", "ok",
		"state 0", "idle", "state 1", "idle", "state 2", "looking", "state 3", "idle", "state 4", "keeping", "state 5", "idle", "state 6", "idle", "state 7", "idle", "state 8", "idle", "state 9", "idle")
}

// P160: as they were done, with `, ` between.
func TestEvents(t *testing.T) {
	tells(t, "events", "shardkeep: none", "world a 1 1", "ok", "events", "nothing", "get 3", "ok", "events", "nothing", "all", "2", "events", "3 get none",
		"get 0", "ok", "all", "2", "events", "3 get none, 0 get none", "put 5 none", "ok", "put 1 b", "ok", "all", "8", "events", "3 get none, 0 get none, 5 put 1.5 none, 1 put 1.1 b",
		"get 2", "ok", "all", "4", "events", "3 get none, 0 get none, 5 put 1.5 none, 1 put 1.1 b, 2 get 1.5 none")
	pairs, last := []string{"world a 1 1", "ok"}, ""
	for i := range 12 {
		count := strconv.Itoa(i + 1)
		pairs = after(pairs, "put 4 t"+count, "ok", "all", "4")
		last += ", 4 put " + count + ".4 t" + count
	}
	tells(t, after(pairs, "events", last[2:], "order", "ok")...)
}

// P160
func TestConfigsAndOrder(t *testing.T) {
	tells(t, "configs", "shardkeep: none", "order", "shardkeep: none", "world a,b 1 1", "ok", "order", "ok", "configs", "1 0", "change a", "ok", "configs", "2 0", "all", "2", "configs", "2 1",
		"put 0 x", "ok", "put 1 y", "ok", "all", "8", "get 2", "ok", "get 2", "shardkeep: held", "all", "4", "order", "ok")
}

// P160: the preferred ones in their order, with or without a world, of which nothing shows.
func TestPrefer(t *testing.T) {
	for _, first := range []string{"fly", "world a 1 1"} {
		told := run(t, []string{first})[0]
		tells(t, first, told, "prefer a,b,c x 3", "b,c,a", "prefer a,b,c x 2", "b,c", "prefer c,a,b x 1", "b", "prefer a,b,c x 0", "nothing", "prefer a,b,c key 3", "a,b,c",
			"prefer a,b,c,d,e x 5", "d,b,c,e,a", "prefer a,b,c,d,e a#0 4", "a,d,b,c", "prefer a Ä!,-\xff\x00\t 1", "a", "prefer c0,mover x 2", "mover,c0",
			"prefer a,b x 3", "shardkeep: few", "prefer a,b x 99999", "shardkeep: few", "prefer a,A x 1", "shardkeep: name", "prefer a,a x 1", "shardkeep: exist", "prefer , x 1", "shardkeep: name",
			"prefer a, x 1", "shardkeep: name", "prefer "+many(17)+" x 1", "shardkeep: bound", "prefer aaaaaaaaaaaaaaaaa x 1", "shardkeep: name", "prefer aaaaaaaaaaaaaaaa x 1", "aaaaaaaaaaaaaaaa")
	}
}
