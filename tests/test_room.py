"""Point 10: rooms."""

import unittest
from itertools import permutations, product

from gossipcount.errors import Forged, NoName
from gossipcount.hands import Hand
from gossipcount.pages import joined
from gossipcount.room import Room
from tests.samples import NO_NAMES, names_of

NAMES = ["carl", "anna", "ben"]
# What the hands of a room may have heard of people outside of it.
OUTSIDE = ({}, {"x": (1, 0)}, {"x": (0, 1), "y": (2, 2)}, {"y": (3, 0), "z": (0, 9)})


def busy_room():
    """A room where anna has raised by 5 and lowered by 2, ben lowered by 1, and carl done nothing."""
    room = Room(list(NAMES))
    room.hand("anna").up(5)
    room.hand("anna").down(2)
    room.hand("ben").down(1)
    return room


def pages(room, names=NAMES):
    """The pages of the hands, with their names in the order told."""
    return [list(room.hand(name).page().items()) for name in names]


class ARoom(unittest.TestCase):
    def test_a_hand_for_each_name(self):
        for names in ([], ["a"], ["anna", "ben"], ["ben", "anna"], list(NAMES), ["abcdefgh", "abcdefg", "z"]):
            with self.subTest(names=names):
                room = Room(list(names))
                for name in names:
                    hand = room.hand(name)
                    self.assertIs(type(hand), Hand)
                    self.assertEqual(hand.name, name)
                    self.assertEqual(hand.page(), {})
                    self.assertEqual(hand.told(), 0)

    def test_a_list_in_which_something_is_no_name_is_refused(self):
        for thing in NO_NAMES:
            for names in ([thing], ["anna", thing], [thing, "anna"], ["anna", thing, "ben"]):
                with self.subTest(names=names):
                    with self.assertRaises(NoName):
                        Room(names)

    def test_a_list_in_which_a_name_stands_twice_is_refused(self):
        for names in (["a", "a"], ["anna", "ben", "anna"], ["ben", "anna", "anna"], ["anna"] * 3):
            with self.subTest(names=names):
                with self.assertRaises(NoName):
                    Room(names)

    def test_the_list_is_neither_changed_nor_kept(self):
        names = list(NAMES)
        room = Room(names)
        room.hand("anna").up(1)
        room.meet("anna", "ben")
        self.assertEqual(names, NAMES)
        names.clear()
        names.append("zoe")
        self.assertEqual(room.meet("anna", "carl"), (0, 1))
        self.assertEqual(room.hand("ben").page(), {"anna": (1, 0)})
        self.assertIs(room.settled(), True)
        with self.assertRaises(NoName):
            room.hand("zoe")

    def test_a_list_that_is_refused_is_not_changed(self):
        for names in (["anna", "Ben"], ["anna", "anna"]):
            handed = list(names)
            with self.assertRaises(NoName):
                Room(handed)
            self.assertEqual(handed, names)

    def test_two_rooms_keep_to_themselves(self):
        one, other = Room(list(NAMES)), Room(list(NAMES))
        one.hand("anna").up(1)
        one.meet("anna", "ben")
        self.assertEqual(pages(other), [[], [], []])


class TheHandOfAName(unittest.TestCase):
    def test_it_is_the_very_hand_of_the_room(self):
        room = Room(list(NAMES))
        self.assertIs(room.hand("anna"), room.hand("anna"))
        self.assertIsNot(room.hand("anna"), room.hand("ben"))
        self.assertEqual(room.hand("anna").up(4), 4)
        self.assertEqual(room.hand("anna").told(), 4)
        self.assertEqual(room.hand("ben").told(), 0)

    def test_a_text_that_is_no_name_of_the_room_is_refused(self):
        room = Room(list(NAMES))
        for text in ("zoe", "ann", "annab", "a", "", "Anna", "anna ", " anna", "an na", "carl, anna", "nobody", "abcdefghi"):
            with self.subTest(text=text):
                with self.assertRaises(NoName):
                    room.hand(text)
        for text in ("anna", "a", ""):
            with self.subTest(text=text):
                with self.assertRaises(NoName):
                    Room([]).hand(text)

    def test_what_is_no_name_is_refused(self):
        room = Room(list(NAMES))
        for thing in NO_NAMES:
            with self.subTest(thing=thing):
                with self.assertRaises(NoName):
                    room.hand(thing)


class Meeting(unittest.TestCase):
    def test_each_hears_the_other_and_the_pair_tells_what_both_are_told(self):
        room = busy_room()
        self.assertEqual(room.meet("anna", "ben"), (1, 1))
        both = [("anna", (5, 2)), ("ben", (0, 1))]
        self.assertEqual(pages(room), [[], both, both])
        self.assertEqual(room.meet("carl", "ben"), (2, 0))
        self.assertEqual(pages(room), [both, both, both])
        self.assertEqual(room.meet("carl", "ben"), (0, 0))
        room.hand("carl").up(1)
        self.assertEqual(room.meet("anna", "carl"), (1, 0))
        self.assertEqual(room.hand("anna").told(), 3)
        self.assertEqual(room.hand("ben").told(), 2)

    def test_the_first_number_is_that_of_the_first_name(self):
        self.assertEqual(busy_room().meet("carl", "anna"), (1, 0))
        self.assertEqual(busy_room().meet("anna", "carl"), (0, 1))

    def test_a_pair_of_whole_numbers_is_told(self):
        room = busy_room()
        for told in (room.meet("anna", "ben"), room.meet("anna", "anna"), room.meet("carl", "carl")):
            self.assertIs(type(told), tuple)
            self.assertEqual([type(number) for number in told], [int, int])

    def test_with_all_pages_each_hears_that_of_ahead_of_the_meeting(self):
        for first, second in product(OUTSIDE, repeat=2):
            with self.subTest(first=first, second=second):
                room = busy_room()
                anna, ben = room.hand("anna"), room.hand("ben")
                anna.hear(first)
                ben.hear(second)
                alone_anna, alone_ben = Hand("anna"), Hand("ben")
                for hand, alone in ((anna, alone_anna), (ben, alone_ben)):
                    raised, lowered = hand.page()[hand.name]
                    if raised:
                        alone.up(raised)
                    alone.down(lowered)
                    alone.hear(hand.page())
                ahead_anna, ahead_ben = anna.page(), ben.page()
                told = (alone_anna.hear(ahead_ben), alone_ben.hear(ahead_anna))
                self.assertEqual(room.meet("anna", "ben"), told)
                self.assertEqual(anna.page(), joined(ahead_anna, ahead_ben))
                self.assertEqual(ben.page(), anna.page())
                self.assertEqual(room.meet("ben", "anna"), (0, 0))

    def test_a_hand_that_meets_itself_hears_nothing_new(self):
        room = busy_room()
        before = pages(room)
        for name in NAMES:
            self.assertEqual(room.meet(name, name), (0, 0))
            self.assertEqual(pages(room), before)
        self.assertEqual(Room(["a"]).meet("a", "a"), (0, 0))

    def test_names_that_are_none_of_the_room_are_refused_and_change_nothing(self):
        room = busy_room()
        before = pages(room)
        for one, other in (("anna", "zoe"), ("zoe", "anna"), ("zoe", "zoe"), ("anna", ""), ("Anna", "ben"), ("zoe", "yan")):
            with self.subTest(one=one, other=other):
                with self.assertRaises(NoName):
                    room.meet(one, other)
                self.assertEqual(pages(room), before)
        with self.assertRaises(NoName):
            Room([]).meet("anna", "anna")

    def test_a_room_of_more_names_than_a_page_has(self):
        names = names_of(210)
        room = Room(names)
        for name in names:
            room.hand(name).up(1)
        for name in names[1:]:
            room.meet(names[0], name)
        for name in names[1:]:
            room.meet(name, names[0])
        self.assertIs(room.settled(), True)
        self.assertEqual(room.hand(names[7]).told(), 210)


class Forgeries(unittest.TestCase):
    def forged_room(self, *forged):
        """A busy room where for each pair the first hand has heard of deeds that the second one has not done."""
        room = busy_room()
        for liar, name, share in forged:
            room.hand(liar).hear({name: share, "x": (1, 0)})
        return room

    def assert_refused(self, room, one, other):
        before = pages(room)
        with self.assertRaises(Forged):
            room.meet(one, other)
        self.assertEqual(pages(room), before)

    def test_refused_whichever_of_both_does_not_trust_and_neither_has_heard(self):
        for share in ((1, 0), (1, 1), (0, 2), (9, 9)):
            with self.subTest(share=share):
                room = self.forged_room(("anna", "ben", share))
                self.assert_refused(room, "anna", "ben")
                self.assert_refused(room, "ben", "anna")

    def test_refused_where_neither_trusts(self):
        room = self.forged_room(("anna", "ben", (1, 0)), ("ben", "anna", (6, 0)))
        self.assert_refused(room, "anna", "ben")
        self.assert_refused(room, "ben", "anna")

    def test_a_hand_without_deeds(self):
        room = self.forged_room(("anna", "carl", (1, 0)))
        self.assert_refused(room, "anna", "carl")
        self.assert_refused(room, "carl", "anna")

    def test_what_is_reached_is_trusted(self):
        room = self.forged_room(("ben", "anna", (5, 2)), ("carl", "anna", (4, 1)))
        self.assertEqual(room.meet("anna", "ben"), (2, 0))
        self.assertEqual(room.meet("carl", "anna"), (2, 0))

    def test_all_others_still_meet_and_hear_the_forgery(self):
        room = self.forged_room(("anna", "ben", (1, 0)))
        self.assertEqual(room.meet("anna", "carl"), (0, 3))
        self.assert_refused(room, "carl", "ben")
        self.assert_refused(room, "ben", "carl")

    def test_the_meeting_holds_once_the_deeds_are_done(self):
        room = self.forged_room(("anna", "ben", (1, 0)))
        self.assert_refused(room, "anna", "ben")
        room.hand("ben").up(1)
        self.assertEqual(room.meet("anna", "ben"), (1, 2))
        self.assertEqual(room.hand("anna").page(), {"anna": (5, 2), "ben": (1, 1), "x": (1, 0)})

    def test_a_hand_meets_itself_all_the_same(self):
        room = self.forged_room(("anna", "ben", (1, 0)), ("ben", "anna", (6, 0)))
        for name in NAMES:
            self.assertEqual(room.meet(name, name), (0, 0))

    def test_no_name_comes_ahead_of_forged(self):
        # These two distrust each other, and what is told of the missing one is told of no hand here.
        room = self.forged_room(("anna", "ben", (1, 0)), ("ben", "anna", (6, 0)), ("anna", "zoe", (1, 0)))
        before = pages(room)
        for one, other in (("anna", "zoe"), ("zoe", "anna"), ("ben", "zoe"), ("zoe", "ben"), ("zoe", "zoe")):
            with self.subTest(one=one, other=other):
                with self.assertRaises(NoName):
                    room.meet(one, other)
                self.assertEqual(pages(room), before)


class Settled(unittest.TestCase):
    def test_a_room_without_hands(self):
        self.assertIs(Room([]).settled(), True)

    def test_a_room_of_one(self):
        room = Room(["a"])
        self.assertIs(room.settled(), True)
        room.hand("a").up(1)
        self.assertIs(room.settled(), True)
        room.hand("a").hear({"b": (1, 0)})
        self.assertIs(room.settled(), True)

    def test_hands_that_have_heard_of_nothing(self):
        self.assertIs(Room(list(NAMES)).settled(), True)

    def test_while_one_of_them_has_another_page(self):
        for odd in NAMES:
            with self.subTest(odd=odd):
                room = Room(list(NAMES))
                room.hand(odd).up(1)
                self.assertIs(room.settled(), False)
                others = [name for name in NAMES if name != odd]
                room.meet(odd, others[0])
                self.assertIs(room.settled(), False)
                room.meet(others[0], others[1])
                self.assertIs(room.settled(), True)
                room.hand(others[1]).down(1)
                self.assertIs(room.settled(), False)

    def test_pages_of_one_total_are_not_the_same_page(self):
        room = Room(["a", "b"])
        room.hand("a").up(1)
        room.hand("b").up(1)
        self.assertIs(room.settled(), False)
        room = Room(["a", "b"])
        room.hand("a").hear({"x": (1, 0)})
        room.hand("b").hear({"x": (2, 1)})
        self.assertIs(room.settled(), False)
        room.hand("a").hear({"x": (2, 0)})
        self.assertIs(room.settled(), False)
        room.hand("a").hear({"x": (0, 1)})
        self.assertIs(room.settled(), True)

    def test_the_order_of_what_was_heard_does_not_matter(self):
        for row in permutations(OUTSIDE):
            room = Room(["a", "b"])
            for page in OUTSIDE:
                room.hand("a").hear(page)
            for page in row:
                room.hand("b").hear(page)
            self.assertIs(room.settled(), True)

    def test_asking_changes_nothing(self):
        room = busy_room()
        before = pages(room)
        self.assertIs(room.settled(), False)
        self.assertEqual(pages(room), before)


if __name__ == "__main__":
    unittest.main()
