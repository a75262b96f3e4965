"""Points 1, 4, 5 and 6 over the whole program, and the opening words of the interface."""

import unittest
from itertools import permutations

from gossipcount.calls import calls
from gossipcount.errors import Forged, GossipError, NoAmount, NoName, NoNote, NoPage
from gossipcount.hands import Hand
from gossipcount.notes import read, written
from gossipcount.pages import is_page, joined, knows, lacking, share_of, total
from gossipcount.room import Room
from tests.samples import mixed, names_of

# Whose deed, a raise or a lower, and by which amount; the sum of all is 4.
DEEDS = (("anna", 5), ("ben", -7), ("anna", -2), ("carl", 1000000000), ("dora", 3), ("carl", -1000000000), ("ben", 5))
NAMES = ["anna", "ben", "carl", "dora"]


def do(hand, many):
    """Raise or, by an amount below nought, lower the count."""
    return hand.up(many) if many > 0 else hand.down(-many)


def hands_after(deeds):
    """The hands of the four, each behind its own deeds alone."""
    hands = {name: Hand(name) for name in NAMES}
    for name, many in deeds:
        do(hands[name], many)
    return hands


class TheSumOfAll(unittest.TestCase):
    def test_whoever_has_heard_of_all_deeds_tells_it_in_whatever_order(self):
        hands = hands_after(DEEDS)
        told = None
        for row in permutations(NAMES):
            listener = Hand("zoe")
            for name in row + row:
                listener.hear(hands[name].page())
            self.assertEqual(listener.told(), 4)
            told = told or listener.page()
            self.assertEqual(list(listener.page().items()), list(told.items()))
        self.assertEqual(told, {"anna": (5, 2), "ben": (5, 7), "carl": (10 ** 9, 10 ** 9), "dora": (3, 0)})

    def test_the_order_of_the_deeds_does_not_matter(self):
        for seed in range(30):
            hands = hands_after(mixed(DEEDS, seed))
            page = {}
            for name in mixed(NAMES, seed):
                page = joined(page, hands[name].page())
            self.assertEqual(total(page), 4)

    def test_by_pages_letters_notes_meetings_and_however_often(self):
        for seed in range(60):
            names = names_of(3 + seed % 6)
            room, total_of_all = Room(names), 0
            steps = [(one, other, at) for at, one in enumerate(names) for other in names]
            for one, other, at in mixed(steps + steps, seed):
                speaker, hearer = room.hand(one), room.hand(other)
                many = (at * 37 + seed) % 9 - 4
                if many:
                    do(speaker, many)
                    total_of_all += many
                way = (at + seed) % 4
                if way == 0:
                    hearer.hear(speaker.page())
                elif way == 1:
                    hearer.hear(speaker.letter(hearer.page()))
                elif way == 2:
                    hearer.hear(read(written(speaker.letter({}))))
                else:
                    room.meet(one, other)
                self.assertIs(knows(hearer.page(), speaker.page()), True)
            for one, other in calls(names):
                room.meet(one, other)
            self.assertIs(room.settled(), True)
            self.assertEqual([room.hand(name).told() for name in names], [total_of_all] * len(names))

    def test_old_letters_that_come_late_and_twice_take_nothing_back(self):
        anna, ben = Hand("anna"), Hand("ben")
        letters = []
        for many in (5, -2, 7, -20):
            do(anna, many)
            letters.append(anna.letter({}))
        for row in permutations(letters):
            ben = Hand("ben")
            for letter in row + row:
                ben.hear(letter)
            self.assertEqual(ben.told(), -10)
            self.assertEqual(ben.page(), anna.page())

    def test_a_hand_that_goes_on_while_it_is_heard_of(self):
        anna, ben = Hand("anna"), Hand("ben")
        anna.up(5)
        ben.hear(anna.page())
        anna.up(1)
        ben.down(3)
        anna.hear(ben.page())
        self.assertEqual(anna.told(), 3)
        self.assertEqual(ben.told(), 2)
        ben.hear(anna.letter(ben.page()))
        self.assertEqual(ben.told(), 3)
        self.assertEqual(ben.page(), anna.page())

    def test_in_any_brackets(self):
        hands = hands_after(DEEDS)
        one, two, three, four = [hands[name].page() for name in NAMES]
        told = joined(joined(joined(one, two), three), four)
        self.assertEqual(joined(one, joined(two, joined(three, four))), told)
        self.assertEqual(joined(joined(one, two), joined(three, four)), told)
        self.assertEqual(joined(joined(one, two), joined(two, joined(three, joined(four, one)))), told)


class PagesThatAreTold(unittest.TestCase):
    def test_are_pages_with_names_rising_and_no_share_of_two_noughts(self):
        for seed in range(20):
            hands = hands_after(mixed(DEEDS, seed)[:4])
            listener = Hand("bea")
            for name in mixed(NAMES, seed):
                listener.hear(hands[name].page())
            if seed % 2:
                listener.up(1)
            told = [hand.page() for hand in hands.values()] + [listener.page(), listener.letter({})]
            told += [listener.letter(hands["ben"].page()), read(written(listener.page()))]
            for page in told:
                self.assertIs(is_page(page), True)
                self.assertEqual(list(page), sorted(page))
                self.assertNotIn((0, 0), list(page.values()))

    def test_who_has_done_nothing_stands_in_no_page(self):
        room = Room(["anna", "ben"])
        room.meet("anna", "ben")
        self.assertEqual(room.hand("anna").page(), {})
        self.assertEqual(share_of(room.hand("anna").page(), "anna"), (0, 0))
        self.assertEqual(room.hand("anna").told(), 0)
        self.assertEqual(written(room.hand("anna").page()), "nobody")


class WhatIsTold(unittest.TestCase):
    def setUp(self):
        self.room = Room(["ben", "anna"])
        self.room.hand("anna").up(5)
        self.room.hand("anna").hear({"x": (1, 1)})
        self.room.hand("ben").down(1)

    def answers(self):
        """All that is told of the room, in plain texts."""
        anna, ben = self.room.hand("anna"), self.room.hand("ben")
        pages = (anna.page(), ben.page(), anna.letter(ben.page()), ben.letter(anna.page()), lacking(anna.page(), ben.page()))
        return [str(page) for page in pages] + [anna.told(), ben.told(), self.room.settled(), calls(["anna", "ben"])]

    def test_may_be_changed_without_any_later_answer_being_changed(self):
        before = self.answers()
        anna, ben = self.room.hand("anna"), self.room.hand("ben")
        told = [
            anna.page(), ben.page(), anna.letter({}), anna.letter(ben.page()), joined(anna.page(), {}), lacking({}, ben.page()),
            read(written(anna.page())),
        ]
        for page in told:
            page["anna"] = (99, 99)
            page["ben"] = (99, 99)
            self.assertEqual(self.answers(), before)
            page.clear()
            self.assertEqual(self.answers(), before)
        row = calls(["anna", "ben"])
        row.clear()
        self.assertEqual(self.answers(), before)

    def test_a_page_goes_from_hand_to_hand_only_as_a_copy(self):
        anna, ben = self.room.hand("anna"), self.room.hand("ben")
        page = anna.page()
        ben.hear(page)
        page.clear()
        self.room.meet("ben", "anna")
        told = ben.page()
        anna.up(1)
        self.assertEqual(ben.page(), told)
        self.assertEqual(told, {"anna": (5, 0), "ben": (0, 1), "x": (1, 1)})
        ben.up(1)
        self.assertEqual(anna.page(), {"anna": (6, 0), "ben": (0, 1), "x": (1, 1)})

    def test_what_was_handed_in_may_be_emptied(self):
        names, heard = ["ben", "anna"], {"zoe": (4, 0)}
        room = Room(names)
        row = calls(names)
        hand = room.hand("anna")
        hand.hear(heard)
        letter = hand.letter(heard)
        note = written(heard)
        names.clear()
        heard.clear()
        self.assertEqual(row, calls(["ben", "anna"]))
        self.assertEqual(letter, {})
        self.assertEqual(note, "zoe +4 -0")
        self.assertEqual(hand.page(), {"zoe": (4, 0)})
        self.assertEqual(room.meet("anna", "ben"), (0, 1))

    def test_refusals_by_their_classes_change_nothing(self):
        before = self.answers()
        anna = self.room.hand("anna")
        wrong = (
            (NoName, Hand, ""), (NoName, Room, ["a", "a"]), (NoName, self.room.hand, "zoe"), (NoAmount, anna.up, 0),
            (NoAmount, anna.down, True), (NoPage, anna.letter, []), (NoPage, anna.hear, {"x": (0, 0)}),
            (Forged, anna.hear, {"anna": (6, 0)}), (NoNote, read, "anna"),
        )
        for refusal, call, thing in wrong:
            with self.subTest(refusal=refusal, call=call):
                with self.assertRaises(refusal) as caught:
                    call(thing)
                self.assertIs(type(caught.exception), refusal)
                self.assertIsInstance(caught.exception, GossipError)
                self.assertIsInstance(caught.exception, ValueError)
                self.assertEqual(self.answers(), before)


if __name__ == "__main__":
    unittest.main()
