"""Things that several tests hand in."""

MOST = 10 ** 60 - 1
LETTERS = "abcdefghijklmnopqrstuvwxyz"

NO_NAMES = (
    "", "Anna", "ANNA", "anna1", "1", "an na", " anna", "anna ", "anna-b", "abcdefghi", "a" * 100, "anna\n", "\u00e4nna",
    0, 1, -1, 1.5, None, True, False, [], ["anna"], (), ("anna",), {}, {"anna": 1}, {"anna"}, b"anna", object(), str,
)
NO_AMOUNTS = (
    0, -1, -5, -1000000000, 1000000001, 10 ** 60, 10 ** 5000, True, False, None, "", "1", "5", 1.0, 2.5, [], [1], (), (1,),
    {}, {1: 1}, {1}, b"1", object(), int,
)
# No page in any way; the dicts hold the names anna and ben, or odd ones.
NO_PAGES = (
    None, 0, 1, True, False, "", "anna", "anna +5 -2", "nobody", 1.5, b"", [], ["anna"], [("anna", (1, 0))], (),
    (("anna", (1, 0)),), set(), {"anna"}, object(), dict,
    {"ben": (0, 0)}, {"anna": (0, 0)}, {"ben": (1, 0), "carl": (0, 0)}, {"ben": [1, 0]}, {"ben": 1}, {"ben": ()},
    {"ben": (1,)}, {"ben": (1, 0, 0)}, {"ben": (-1, 0)}, {"ben": (1, -1)}, {"ben": (True, 0)}, {"ben": (1, False)},
    {"ben": ("1", 0)}, {"ben": (1.0, 0)}, {"ben": None}, {"ben": (10 ** 60, 0)}, {"ben": (0, 10 ** 60)},
    {"": (1, 0)}, {"Ben": (1, 0)}, {"ben1": (1, 0)}, {"abcdefghi": (1, 0)}, {1: (1, 0)}, {None: (1, 0)}, {(): (1, 0)},
)


def name_of(at):
    """The name that stands at a place of a row of many, rising, all of three letters."""
    return "q" + LETTERS[at // 26] + LETTERS[at % 26]


def names_of(many):
    """So many names, rising."""
    return [name_of(at) for at in range(many)]


def page_of(many):
    """A page of so many names, with a total of as many."""
    return {name_of(at): (at + 1, at) for at in range(many)}


def mixed(row, seed):
    """A list of what stands in a row, in an order that the seed alone tells."""
    rest, told = list(row), []
    while rest:
        seed = (seed * 1103515245 + 12345) & 0x7FFFFFFF
        told.append(rest.pop((seed >> 8) % len(rest)))
    return told
