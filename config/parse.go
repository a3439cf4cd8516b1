package config

import (
	"strings"

	"burrow/api"
	"burrow/codec"
)

const (
	lineEnd = "\n"
	blanks  = " \t"
	comment = "#"
)

// parser is the state of Parse. A line that is wrong ends the parser by a panic.
type parser struct {
	config api.Config
	line   int             // from 1 on
	seen   map[string]bool // the names in the last section so far; nil ahead of the first one
}

// Parse returns the configuration of a text. With an error it returns the number of the line, 0 for an error that belongs to none. Errors, in this order: ErrLong, ErrForm, those of Validate.
func Parse(s string) (c api.Config, line int, err api.Errno) {
	if len(s) > api.MaxText {
		return api.Config{}, 0, api.ErrLong
	}
	var p parser
	defer func() {
		if recover() != nil {
			c, line, err = api.Config{}, p.line, api.ErrForm
		}
	}()
	p.read(s)
	if err = Validate(p.config); err != api.OK {
		return api.Config{}, 0, err
	}
	return p.config, 0, api.OK
}

// require ends the parser unless what the text must have is there.
func require(ok bool) {
	if !ok {
		panic(api.ErrForm)
	}
}

// must returns the value that was read, and ends the parser if there is none.
func must[T any](value T, err api.Errno) T {
	require(err == api.OK)
	return value
}

func (p *parser) read(s string) {
	for s != "" {
		var text string
		text, s, _ = strings.Cut(s, lineEnd)
		p.line++
		p.readLine(strings.Trim(text, blanks))
	}
	p.line++
	p.endSection()
}

func (p *parser) readLine(text string) {
	switch {
	case text == "" || strings.HasPrefix(text, comment):
	case text == interfaceLine:
		require(p.seen == nil)
		p.seen = map[string]bool{}
	case text == peerLine:
		p.endSection()
		p.seen = map[string]bool{}
		p.config.Peers = append(p.config.Peers, api.PeerConfig{})
	default:
		name, value, found := strings.Cut(text, "=")
		require(found)
		p.readEntry(strings.TrimRight(name, blanks), strings.TrimLeft(value, blanks))
	}
}

// endSection requires the names that must be in the last section. Without a section they are missing, too.
func (p *parser) endSection() {
	if len(p.config.Peers) == 0 {
		require(p.seen[privateName] && p.seen[portName])
	} else {
		require(p.seen[publicName])
	}
}

func (p *parser) readEntry(name, value string) {
	require(p.seen != nil && !p.seen[name])
	p.seen[name] = true
	if last := len(p.config.Peers) - 1; last >= 0 {
		readPeer(&p.config.Peers[last], name, value)
	} else {
		readInterface(&p.config, name, value)
	}
}

func readInterface(c *api.Config, name, value string) {
	switch name {
	case privateName:
		c.Private = must(codec.ParseKey(value))
	case portName:
		c.Port = int(must(number(value)))
	default:
		panic(api.ErrForm)
	}
}

func readPeer(p *api.PeerConfig, name, value string) {
	switch name {
	case publicName:
		p.Public = must(codec.ParseKey(value))
	case sharedName:
		p.Shared = must(codec.ParseKey(value))
	case endpointName:
		p.Endpoint = must(ParseEndpoint(value))
		p.HasEndpoint = true
	case keepaliveName:
		p.Keepalive = must(number(value))
	case allowedName:
		for _, text := range strings.Split(value, ",") {
			p.Allowed = append(p.Allowed, must(ParsePrefix(strings.Trim(text, blanks))))
		}
	default:
		panic(api.ErrForm)
	}
}
