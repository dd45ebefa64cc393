package retain

import (
	"maps"
	"slices"
	"strings"

	"switchboard/api"
	"switchboard/topic"
)

// Store is a message of each topic, at most.
type Store struct {
	most     int
	messages map[string]Message // by their topics
}

// New: nothing is retained; at most so many will be.
func New(most int) *Store {
	return &Store{most: max(most, 0), messages: map[string]Message{}}
}

// Len: how many.
func (s *Store) Len() int {
	return len(s.messages)
}

// Set: a message is its topic's; one without bytes takes it away.
func (s *Store) Set(m Message) api.Errno {
	if m.Payload == "" {
		delete(s.messages, m.Topic)
		return api.OK
	}
	if _, has := s.messages[m.Topic]; !has && len(s.messages) >= s.most {
		return api.ErrFull
	}
	s.messages[m.Topic] = m.own()
	return api.OK
}

// Match: the messages that may be told yet, whose topics meet a filter, by rising topics.
func (s *Store) Match(filter string, now int) []Message {
	var met []Message
	for name, m := range s.messages {
		if !m.Gone(now) && topic.Match(filter, name) {
			met = append(met, m.own())
		}
	}
	slices.SortFunc(met, func(a, b Message) int {
		return strings.Compare(a.Topic, b.Topic)
	})
	return met
}

// Expire: those that may be told no more are gone; how many.
func (s *Store) Expire(now int) int {
	ahead := len(s.messages)
	maps.DeleteFunc(s.messages, func(name string, m Message) bool {
		return m.Gone(now)
	})
	return ahead - len(s.messages)
}
