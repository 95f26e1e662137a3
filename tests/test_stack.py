"""Promise 2: sm_stack."""

import unittest
from fractions import Fraction
from math import floor
from statistics import median_low

from picturestack.pictures import sm_stack
from tests.support import assert_plain_answer, assert_ranges, assert_same_twice, pattern, told

# The greatest q: nothing is too far off up to 64 times the usual distance.
WIDE = 256


def one_place(least, q, numbers, covers=None):
    """One place seen by several pictures, as (number, count, cover); all covers 1 unless told."""
    if covers is None:
        covers = [1] * len(numbers)
    answer = sm_stack(1, least, q, numbers, covers)
    assert [answer[0], answer[1], answer[3], answer[5], len(answer)] == [0, 1, 1, 1, 7]
    return answer[2], answer[4], answer[6]


def summed_by_fractions(least, q, numbers, covers):
    """A place straight by the words, with exact fractions."""
    seen = [k for k in range(len(numbers)) if covers[k] >= least and covers[k] != 0]
    if not seen:
        return 0, 0, 0
    middle = median_low(numbers[k] for k in seen)
    usual = median_low(abs(numbers[k] - middle) for k in seen) or 1
    left = [k for k in seen if abs(numbers[k] - middle) <= Fraction(q, 4) * usual]
    cover = sum(covers[k] for k in left)
    light = Fraction(sum(numbers[k] * covers[k] for k in left), cover)
    return floor(light + Fraction(1, 2)), len(left), cover


def stack_by_fractions(n, least, q, x, cover):
    found = [summed_by_fractions(least, q, x[place::n], cover[place::n]) for place in range(n)]
    return told(*[[one[part] for one in found] for part in range(3)])


class Ordinary(unittest.TestCase):
    def test_unlike_numbers_and_covers(self):
        # The first place: (10 * 1 + 20 * 2 + 33 * 3) / 6 is 24.8; the second: (100 * 4 + 60 * 4 + 80 * 8) / 16 is 80.
        x = [10, 100, 20, 60, 33, 80]
        cover = [1, 4, 2, 4, 3, 8]
        self.assertEqual(sm_stack(2, 0, WIDE, x, cover), told([25, 80], [3, 3], [6, 16]))

    def test_the_covers_are_weights(self):
        self.assertEqual(one_place(0, WIDE, [100, 200, 300], [1, 1, 2]), (225, 3, 4))
        self.assertEqual(one_place(0, WIDE, [100, 200, 300], [2, 1, 1]), (175, 3, 4))

    def test_what_is_far_off_is_left_out(self):
        # The middle one is 103, the distances 3 1 0 1 897, the middle one of these 1: up to 3 with q 12.
        numbers = [100, 102, 103, 104, 1000]
        self.assertEqual(one_place(0, 12, numbers), (102, 4, 4))
        self.assertEqual(one_place(0, 11, numbers), (103, 3, 3))
        # Below the others likewise.
        self.assertEqual(one_place(0, 12, [1000, 1001, 1003, 7, 1001]), (1001, 4, 4))

    def test_each_place_by_itself(self):
        # A picture that is far off at one place is taken at the others.
        x = [10, 20, 30, 11, 900, 31, 12, 22, 32, 13, 23, 33]
        self.assertEqual(sm_stack(3, 0, 12, x, [2] * 12), told([12, 22, 32], [4, 3, 4], [8, 6, 8]))

    def test_the_order_of_pictures_does_not_count(self):
        numbers, covers = [500, 90, 110, 100, 95], [7, 1, 2, 3, 4]
        kept = one_place(0, 8, numbers, covers)
        for shift in range(5):
            turned = numbers[shift:] + numbers[:shift], covers[shift:] + covers[:shift]
            self.assertEqual(one_place(0, 8, *turned), kept)
            self.assertEqual(one_place(0, 8, turned[0][::-1], turned[1][::-1]), kept)

    def test_against_fractions(self):
        for n, k in [(1, 1), (1, 16), (5, 2), (7, 3), (4, 4), (6, 9), (40, 16)]:
            wide = pattern(n * k)
            narrow = [1000 + number % 9 for number in pattern(n * k, 5003)]
            covers = [number % 7 * (number % 5) for number in pattern(n * k, 104729)]
            for x in (wide, narrow):
                for least in (0, 1, 4, 9, 24, 65535):
                    for q in (0, 1, 3, 4, 5, 8, 12, 255, 256):
                        with self.subTest(n=n, k=k, least=least, q=q):
                            got = sm_stack(n, least, q, x, covers)
                            self.assertEqual(got, stack_by_fractions(n, least, q, x, covers))

    def test_the_form_of_the_answer(self):
        got = sm_stack(5, 0, 8, pattern(15), pattern(15, 31))
        self.assertEqual(len(got), 1 + 3 * (1 + 5))
        self.assertEqual([got[0], got[1], got[7], got[13]], [0, 5, 5, 5])
        assert_plain_answer(self, got)


class Covers(unittest.TestCase):
    def test_below_least_and_just_least(self):
        self.assertEqual(one_place(10, WIDE, [100, 120, 140], [9, 10, 11]), (130, 2, 21))
        self.assertEqual(one_place(11, WIDE, [100, 120, 140], [9, 10, 11]), (140, 1, 11))
        self.assertEqual(one_place(9, WIDE, [100, 120, 140], [9, 10, 11]), (121, 3, 30))
        self.assertEqual(one_place(12, WIDE, [100, 120, 140], [9, 10, 11]), (0, 0, 0))

    def test_what_is_not_taken_does_not_move_the_middle(self):
        # With the first two counted the middle one would be 5, and 1000 far off from it.
        self.assertEqual(one_place(2, 4, [5, 5, 1000], [1, 1, 2]), (1000, 1, 2))
        self.assertEqual(one_place(0, 4, [5, 5, 1000], [0, 0, 2]), (1000, 1, 2))
        # With the first three counted the usual distance would be 1, and 104 too far off from 100.
        self.assertEqual(one_place(2, 4, [99, 101, 100, 96, 100, 104], [1, 1, 1, 2, 2, 2]), (100, 3, 6))

    def test_0_is_never_taken(self):
        self.assertEqual(one_place(0, WIDE, [100, 200], [0, 3]), (200, 1, 3))
        self.assertEqual(one_place(1, WIDE, [100, 200], [0, 3]), (200, 1, 3))

    def test_1_is_taken_with_least_0_and_1(self):
        self.assertEqual(one_place(0, WIDE, [100], [1]), (100, 1, 1))
        self.assertEqual(one_place(1, WIDE, [100], [1]), (100, 1, 1))
        self.assertEqual(one_place(2, WIDE, [100], [1]), (0, 0, 0))

    def test_none_is_left(self):
        self.assertEqual(one_place(0, WIDE, [100, 200], [0, 0]), (0, 0, 0))
        self.assertEqual(one_place(5, WIDE, [100, 200], [4, 4]), (0, 0, 0))
        self.assertEqual(one_place(65535, WIDE, [100, 200], [65534, 65534]), (0, 0, 0))
        # Beside places where something is left.
        got = sm_stack(3, 3, 4, [7, 8, 9, 7, 8, 9], [3, 2, 4, 3, 0, 4])
        self.assertEqual(got, told([7, 0, 9], [2, 0, 2], [6, 0, 8]))

    def test_the_greatest_covers_and_numbers(self):
        self.assertEqual(one_place(65535, 0, [65535] * 16, [65535] * 16), (65535, 16, 16 * 65535))


class TheMiddleOne(unittest.TestCase):
    def test_of_two_in_the_middle_the_lower(self):
        # With q 0 only the middle one itself is near.
        self.assertEqual(one_place(0, 0, [10, 20]), (10, 1, 1))
        self.assertEqual(one_place(0, 0, [20, 10]), (10, 1, 1))
        self.assertEqual(one_place(0, 0, [40, 10, 30, 20]), (20, 1, 1))
        self.assertEqual(one_place(0, 0, [40, 10, 30]), (30, 1, 1))

    def test_of_two_distances_in_the_middle_the_lower(self):
        # The middle one is 10, the distances are 10 0 2 90 in order 0 2 10 90: 2 is the usual one.
        numbers = [0, 10, 12, 100]
        self.assertEqual(one_place(0, 4, numbers), (11, 2, 2))
        self.assertEqual(one_place(0, 19, numbers), (11, 2, 2))
        self.assertEqual(one_place(0, 20, numbers), (7, 3, 3))

    def test_two_unlike_pictures(self):
        # The distances are 0 and 10, of which 0 is the middle one, and 1 stands for it: 40 quarters off.
        self.assertEqual(one_place(0, 39, [10, 20]), (10, 1, 1))
        self.assertEqual(one_place(0, 40, [10, 20]), (15, 2, 2))

    def test_alike_pictures_summed_are_as_they_were(self):
        f = pattern(30)
        for k in (1, 2, 3, 15, 16):
            for q in (0, 1, 4, 256):
                cover = [1 + place % 4096 for place in range(30)]
                got = sm_stack(30, 0, q, f * k, cover * k)
                self.assertEqual(got, told(f, [k] * 30, [k * one for one in cover]))

    def test_alike_pictures_with_unlike_covers(self):
        self.assertEqual(one_place(0, 0, [77, 77, 77], [1, 4096, 65535]), (77, 3, 69632))

    def test_1_stands_for_a_usual_distance_of_0(self):
        # Three alike and one off by 3: 12 quarters.
        self.assertEqual(one_place(0, 12, [50, 50, 50, 53]), (51, 4, 4))
        self.assertEqual(one_place(0, 11, [50, 50, 50, 53]), (50, 3, 3))
        self.assertEqual(one_place(0, 4, [50, 50, 50, 49]), (50, 4, 4))
        self.assertEqual(one_place(0, 3, [50, 50, 50, 48]), (50, 3, 3))
        self.assertEqual(one_place(0, 256, [50, 50, 50, 114]), (66, 4, 4))
        self.assertEqual(one_place(0, 256, [50, 50, 50, 115]), (50, 3, 3))


class HowFar(unittest.TestCase):
    def test_just_q_quarters_off_and_one_more(self):
        # The middle one is 100 and the usual distance 8: 5 quarters of it are 10.
        self.assertEqual(one_place(0, 5, [100, 108, 92, 110, 90]), (100, 5, 5))
        self.assertEqual(one_place(0, 5, [100, 108, 92, 111, 89]), (100, 3, 3))
        self.assertEqual(one_place(0, 5, [100, 108, 92, 110, 89]), (103, 4, 4))
        self.assertEqual(one_place(0, 5, [100, 108, 92, 111, 90]), (98, 4, 4))

    def test_quarters_are_not_rounded(self):
        # Three quarters of 5 are 3.75: 3 is near and 4 is not.
        self.assertEqual(one_place(0, 3, [100, 103, 95, 105, 94]), (102, 2, 2))
        self.assertEqual(one_place(0, 3, [100, 104, 95, 105, 94]), (100, 1, 1))

    def test_q_0(self):
        self.assertEqual(one_place(0, 0, [9, 7, 8, 8, 1], [1, 1, 2, 3, 1]), (8, 2, 5))
        self.assertEqual(one_place(0, 0, [9, 9, 9]), (9, 3, 3))
        self.assertEqual(one_place(0, 0, [9, 10, 10]), (10, 2, 2))

    def test_the_greatest_q(self):
        # The usual distance is 1: up to 64.
        self.assertEqual(one_place(0, 256, [1000, 999, 1001, 1064, 936]), (1000, 5, 5))
        self.assertEqual(one_place(0, 256, [1000, 999, 1001, 1065, 935]), (1000, 3, 3))

    def test_the_ends_of_numbers(self):
        self.assertEqual(one_place(0, 4, [0, 65535, 0]), (0, 2, 2))
        self.assertEqual(one_place(0, 4, [65535, 0, 65535]), (65535, 2, 2))
        # The usual distance is 32767, and 0 is one more off.
        self.assertEqual(one_place(0, 4, [0, 32768, 65535]), (49152, 2, 2))
        self.assertEqual(one_place(0, 5, [0, 32768, 65535]), (32768, 3, 3))


class Rounded(unittest.TestCase):
    def test_just_between_two_whole_numbers_is_the_greater(self):
        self.assertEqual(one_place(0, 4, [0, 1]), (1, 2, 2))
        self.assertEqual(one_place(0, 4, [1, 2]), (2, 2, 2))
        self.assertEqual(one_place(0, 4, [2, 1]), (2, 2, 2))
        self.assertEqual(one_place(0, 4, [65534, 65535], [7, 7]), (65535, 2, 14))

    def test_the_nearest(self):
        self.assertEqual(one_place(0, 4, [1, 2], [3, 2]), (1, 2, 5))
        self.assertEqual(one_place(0, 4, [1, 2], [2, 3]), (2, 2, 5))
        self.assertEqual(one_place(0, 4, [1, 2], [32768, 32767]), (1, 2, 65535))
        self.assertEqual(one_place(0, 4, [1, 2], [32767, 32768]), (2, 2, 65535))


class Sizes(unittest.TestCase):
    def test_one_picture_stays_as_it_is(self):
        for n in (1, 2, 4096):
            f = pattern(n)
            self.assertEqual(sm_stack(n, 0, 0, f, [4096] * n), told(f, [1] * n, [4096] * n))

    def test_one_picture_with_holes(self):
        self.assertEqual(sm_stack(3, 2, 4, [5, 6, 7], [1, 2, 0]), told([0, 6, 0], [0, 1, 0], [0, 2, 0]))

    def test_sixteen_pictures_of_one_place(self):
        numbers = [100 + k for k in range(16)]
        # The middle one is 107, the usual distance 4.
        self.assertEqual(one_place(0, 4, numbers), (107, 9, 9))
        self.assertEqual(one_place(0, 8, numbers), (108, 16, 16))

    def test_the_longest_lists(self):
        # With 4096 places 14 pictures are the most that 61000 numbers hold, with 16 pictures 3812 places.
        for n, k in [(4096, 14), (3812, 16)]:
            x, cover = pattern(n * k), [number % 4097 for number in pattern(n * k, 613)]
            got = sm_stack(n, 1000, 6, x, cover)
            self.assertEqual(len(got), 4 + 3 * n)
            self.assertEqual([got[1], got[2 + n], got[3 + 2 * n]], [n, n, n])
            for place in (0, 1, 1000, n - 2, n - 1):
                found = (got[2 + place], got[3 + n + place], got[4 + 2 * n + place])
                self.assertEqual(found, summed_by_fractions(1000, 6, x[place::n], cover[place::n]))


class WrongInputs(unittest.TestCase):
    BASE = {"n": 3, "least": 2, "q": 4}
    RANGES = {"n": (1, 4096), "least": (0, 65535), "q": (0, 256)}

    @staticmethod
    def lists_of(numbers):
        # Lists longer than 61000 are not handed in: one number more is enough to tell.
        count = min(14 * numbers["n"], 61001)
        return {"x": pattern(count), "cover": pattern(count, 31)}

    def test_each_range(self):
        assert_ranges(self, sm_stack, self.BASE, self.RANGES, self.lists_of, 61000)

    def test_how_many_pictures(self):
        for n in (1, 3, 3588):
            for k, refused in [(0, True), (1, False), (16, False), (17, True)]:
                x, cover = pattern(n * k), pattern(n * k, 31)
                self.assertEqual(sm_stack(n, 0, 4, x, cover)[0], -2 if refused else 0, (n, k))
            self.assertEqual(sm_stack(n, 0, 4, [], []), [-2])
            self.assertEqual(sm_stack(n, 0, 4, pattern(n * 17), pattern(n * 17, 31)), [-2])
        self.assertEqual(sm_stack(4096, 0, 4, [], []), [-2])
        self.assertEqual(sm_stack(1, 0, 4, pattern(61000), pattern(61000)), [-2])

    def test_no_places(self):
        self.assertEqual(sm_stack(0, 0, 0, [], []), [-2])

    def test_too_many_places(self):
        for k in (0, 1, 14):
            self.assertEqual(sm_stack(4097, 0, 4, pattern(4097 * k), pattern(4097 * k)), [-2])
        self.assertEqual(sm_stack(61000, 0, 4, pattern(61000), pattern(61000)), [-2])

    def test_the_greatest_words(self):
        self.assertEqual(sm_stack(4294967295, 0, 0, [], []), [-2])
        for lists in ([[], []], [[1, 2], [3, 4]]):
            self.assertEqual(sm_stack(2, 4294967295, 0, *lists), [-2])
            self.assertEqual(sm_stack(2, 0, 4294967295, *lists), [-2])

    def test_just_out_of_range_with_lists(self):
        self.assertEqual(sm_stack(2, 65536, 4, [1, 2], [3, 4]), [-2])
        self.assertEqual(sm_stack(2, 65535, 4, [1, 2], [3, 4]), told([0, 0], [0, 0], [0, 0]))
        self.assertEqual(sm_stack(2, 0, 257, [1, 2], [3, 4]), [-2])
        self.assertEqual(sm_stack(2, 0, 256, [1, 2], [3, 4]), told([1, 2], [1, 1], [3, 4]))

    def test_all_wrong_at_once(self):
        self.assertEqual(sm_stack(0, 65536, 257, [], []), [-2])


class StandsAlone(unittest.TestCase):
    def test_nothing_is_changed_or_kept(self):
        lists = [pattern(45), pattern(45, 31)]
        kept = assert_same_twice(self, sm_stack, [5, 3000, 6], lists)
        sm_stack(9, 0, 256, *lists)
        sm_stack(4097, 0, 0, [], [])
        self.assertEqual(assert_same_twice(self, sm_stack, [5, 3000, 6], lists), kept)

    def test_one_place_and_one_picture(self):
        assert_same_twice(self, sm_stack, [1, 0, 4], [pattern(16), pattern(16, 31)])
        assert_same_twice(self, sm_stack, [16, 0, 4], [pattern(16), pattern(16, 31)])

    def test_a_refusal_is_the_same_twice(self):
        self.assertEqual(assert_same_twice(self, sm_stack, [1, 0, 4], [pattern(17), pattern(17)]), [-2])


if __name__ == "__main__":
    unittest.main()
