import PyProof.Rows.All
import Wide.All
import OpenK.AllK
import Wide.FinOn
import Open.SpecLaws
import KE.OsGo
import HandS.ForSpec
import HandS.ForMost
import HandS.Walk
import HandS.Wide
import HandS.SortInts
import PySem.Challenge.RW_picturestack_s01_sm_place
set_option Elab.async false
set_option linter.all false
set_option maxRecDepth 100000
set_option maxHeartbeats 4000000
/-! ### plain mathematics: words with a sign, ranges, lists row by row -/
namespace Ps
/-- a word with its sign -/
def sg (x : Int) : Int := if 2147483648 ≤ x then x - 4294967296 else x
theorem sg_int32 {x : Int} (h0 : 0 ≤ x) : Sh69Neutral.int32 x.toNat = sg x := by
  unfold Sh69Neutral.int32 sg
  by_cases h : 2147483648 ≤ x
  · rw [if_pos h, if_neg (by omega)]
    omega
  · rw [if_neg h, if_pos (by omega)]
    omega
def inR (lo hi n : Int) : Bool := decide (lo ≤ n) && decide (n ≤ hi)
theorem inR_iff {lo hi n : Int} : inR lo hi n = true ↔ lo ≤ n ∧ n ≤ hi := by
  unfold inR
  rw [Bool.and_eq_true, decide_eq_true_iff, decide_eq_true_iff]
/-- column and row stand in a picture -/
def inPic (c r w h : Int) : Bool := decide (0 ≤ c) && (decide (c < w) && (decide (0 ≤ r) && decide (r < h)))
theorem inPic_iff {c r w h : Int} : inPic c r w h = true ↔ 0 ≤ c ∧ c < w ∧ 0 ≤ r ∧ r < h := by
  unfold inPic
  simp only [Bool.and_eq_true, decide_eq_true_iff]
theorem fm_congr {α β : Type} {f g : α → List β} : ∀ {l : List α}, (∀ a ∈ l, f a = g a) → l.flatMap f = l.flatMap g
  | [], _ => rfl
  | a :: l, h => by
    rw [List.flatMap_cons, List.flatMap_cons, h a (List.mem_cons_self ..), fm_congr fun b hb => h b (List.mem_cons_of_mem _ hb)]
/-- row by row, the first i rows -/
def rows {α : Type} (g : Nat → Nat → α) (w i : Nat) : List α := (List.range i).flatMap fun r => (List.range w).map fun c => g c r
theorem rows_succ {α : Type} (g : Nat → Nat → α) (w i : Nat) : rows g w (i + 1) = rows g w i ++ (List.range w).map fun c => g c i := by
  unfold rows
  rw [List.range_succ, List.flatMap_append]
  simp only [List.flatMap_cons, List.flatMap_nil, List.append_nil]
theorem rows_length {α : Type} (g : Nat → Nat → α) (w : Nat) : ∀ i, (rows g w i).length = i * w
  | 0 => by
    unfold rows
    simp
  | i + 1 => by
    rw [rows_succ, List.length_append, rows_length g w i, List.length_map, List.length_range, Nat.succ_mul]
theorem row_succ {α : Type} (g : Nat → Nat → α) (i j : Nat) : (List.range (j + 1)).map (fun c => g c i) = (List.range j).map (fun c => g c i) ++ [g j i] := by
  rw [List.range_succ, List.map_append]
  rfl
theorem rows_congr {α : Type} {g g' : Nat → Nat → α} {w h : Nat} (e : ∀ c r, c < w → r < h → g c r = g' c r) : rows g w h = rows g' w h := by
  unfold rows
  refine fm_congr fun r hr => ?_
  refine List.map_congr_left fun c hc => ?_
  exact e c r (List.mem_range.mp hc) (List.mem_range.mp hr)
theorem rows_map {α β : Type} (f : α → β) (g : Nat → Nat → α) (w h : Nat) : (rows g w h).map f = rows (fun c r => f (g c r)) w h := by
  unfold rows
  rw [List.map_flatMap]
  refine fm_congr fun r _ => ?_
  rw [List.map_map]
  rfl
theorem ints_each (w h : Nat) (f : Nat → Nat → Nat) : Sh69Neutral.ints (Sh69.each w h f) = rows (fun c r => (f c r : Int)) w h := by
  unfold Sh69Neutral.ints Sh69.each rows
  rw [List.map_flatMap]
  refine fm_congr fun r _ => ?_
  rw [List.map_map]
  rfl
/-- the place in a list of rows -/
theorem place_lt {w h c r : Int} (hc0 : 0 ≤ c) (hc : c < w) (hr0 : 0 ≤ r) (hr : r < h) : 0 ≤ r * w + c ∧ r * w + c < w * h := by
  have h1 : 0 ≤ r * w := Int.mul_nonneg hr0 (by omega)
  have h2 : (r + 1) * w ≤ h * w := Int.mul_le_mul_of_nonneg_right (by omega) (by omega)
  rw [Int.add_mul, Int.one_mul, Int.mul_comm h w] at h2
  omega
theorem nats_getD {ns : List Int} (h0 : ∀ n ∈ ns, 0 ≤ n) (i : Nat) : ((Sh69.num (Sh69Neutral.nats ns) i : Nat) : Int) = ns.getD i 0 := by
  unfold Sh69.num Sh69Neutral.nats
  rw [List.getD_eq_getElem?_getD, List.getD_eq_getElem?_getD, List.getElem?_map]
  cases e : ns[i]? with
  | none => rfl
  | some z =>
    have hz : 0 ≤ z := h0 z (List.mem_of_getElem? e)
    show ((z.toNat : Nat) : Int) = z
    omega
theorem nats_length (ns : List Int) : (Sh69Neutral.nats ns).length = ns.length := List.length_map _
theorem list_at {ns : List Int} {i : Nat} (h : i < ns.length) : ns[i]? = some (ns.getD i 0) := by
  rw [List.getD_eq_getElem?_getD, List.getElem?_eq_getElem h]
  rfl
end Ps
namespace Ps
/-! ### sm_move: the mirror, and that it is the specification -/
def moveG (dx dy w h : Int) (ns : List Int) (c r : Nat) : Int := if inPic ((c : Int) - dx) ((r : Int) - dy) w h = true then ns.getD (((r : Int) - dy) * w + ((c : Int) - dx)).toNat 0 else 0
def movesOk (l : List Int) : Bool := l.all (inR (-8192) 8192)
def sidesOk (l : List Int) : Bool := l.all (inR 1 64)
def moveOk (dx dy w h : Int) : Bool := movesOk [sg dx, sg dy] && sidesOk [w, h]
def moveAns (dx dy w h : Int) (ns : List Int) : List Int := if moveOk dx dy w h = true then 0 :: rows (moveG (sg dx) (sg dy) w h ns) w.toNat h.toNat else [-2]
theorem moveOk_iff {dx dy w h : Int} : moveOk dx dy w h = true ↔ (-8192 ≤ sg dx ∧ sg dx ≤ 8192) ∧ (-8192 ≤ sg dy ∧ sg dy ≤ 8192) ∧ (1 ≤ w ∧ w ≤ 64) ∧ (1 ≤ h ∧ h ≤ 64) := by
  unfold moveOk movesOk sidesOk
  simp only [List.all_cons, List.all_nil, Bool.and_true, Bool.and_eq_true, inR_iff, and_assoc]
theorem sized_iff {w h : Int} (hw : 0 ≤ w) (hh : 0 ≤ h) : Sh69.sized w.toNat h.toNat = true ↔ (1 ≤ w ∧ w ≤ 64) ∧ (1 ≤ h ∧ h ≤ 64) := by
  unfold Sh69.sized Sh69.among
  simp only [Bool.and_eq_true, decide_eq_true_iff]
  omega
theorem off_iff {c d : Int} (hc : 0 ≤ c) (hd : 0 ≤ d) : Sh69.off (Sh69Neutral.int32 c.toNat) (Sh69Neutral.int32 d.toNat) = true ↔ (-8192 ≤ sg c ∧ sg c ≤ 8192) ∧ (-8192 ≤ sg d ∧ sg d ≤ 8192) := by
  rw [sg_int32 hc, sg_int32 hd]
  unfold Sh69.off Sh69.within
  simp only [Bool.and_eq_true, decide_eq_true_iff]
theorem moveCond {dx dy w h : Int} (h1 : 0 ≤ dx) (h2 : 0 ≤ dy) (h3 : 0 ≤ w) (h4 : 0 ≤ h) : (Sh69.sized w.toNat h.toNat && Sh69.off (Sh69Neutral.int32 dx.toNat) (Sh69Neutral.int32 dy.toNat)) = moveOk dx dy w h := by
  rw [Bool.eq_iff_iff, moveOk_iff, Bool.and_eq_true, sized_iff h3 h4, off_iff h1 h2]
  constructor
  · rintro ⟨⟨a, b⟩, c, d⟩
    exact ⟨c, d, a, b⟩
  · rintro ⟨c, d, a, b⟩
    exact ⟨⟨a, b⟩, c, d⟩
theorem good_is {w h : Nat} {ns : List Int} (h0 : ∀ n ∈ ns, 0 ≤ n) (c r : Int) : (((Sh69.good w h (Sh69Neutral.nats ns) [] c r).getD 0 : Nat) : Int) = if inPic c r w h = true then ns.getD (r * w + c).toNat 0 else 0 := by
  unfold Sh69.good
  by_cases k : inPic c r w h = true
  · have k' := inPic_iff.mp k
    rw [if_pos k, if_neg (by omega)]
    show (((if Sh69.num [] _ = 0 then some (Sh69.num (Sh69Neutral.nats ns) (r.toNat * w + c.toNat)) else none).getD 0 : Nat) : Int) = _
    rw [if_pos (show Sh69.num [] (r.toNat * w + c.toNat) = 0 by unfold Sh69.num; simp)]
    show ((Sh69.num (Sh69Neutral.nats ns) (r.toNat * w + c.toNat) : Nat) : Int) = _
    rw [nats_getD h0]
    congr 1
    have e1 : ((r.toNat * w + c.toNat : Nat) : Int) = r * w + c := by
      rw [Int.natCast_add, Int.natCast_mul, Int.toNat_of_nonneg k'.2.2.1, Int.toNat_of_nonneg k'.1]
    omega
  · have k' : ¬ (0 ≤ c ∧ c < w ∧ 0 ≤ r ∧ r < h) := fun z => k (inPic_iff.mpr z)
    rw [if_neg k, if_pos (by omega)]
    rfl
theorem move_is {dx dy w h : Int} {ns : List Int} (h1 : 0 ≤ dx) (h2 : 0 ≤ dy) (h3 : 0 ≤ w) (h4 : 0 ≤ h) (h0 : ∀ n ∈ ns, 0 ≤ n) : PySh69.sm_move dx dy w h ns = moveAns dx dy w h ns := by
  show Sh69Neutral.told (Sh69.answer (if (Sh69.sized w.toNat h.toNat && Sh69.off (Sh69Neutral.int32 dx.toNat) (Sh69Neutral.int32 dy.toNat)) = true then Sh69.Call.move (Sh69Neutral.int32 dx.toNat) (Sh69Neutral.int32 dy.toNat) w.toNat h.toNat (Sh69Neutral.nats ns) else Sh69.Call.bad)) = _
  rw [moveCond h1 h2 h3 h4]
  unfold moveAns
  by_cases k : moveOk dx dy w h = true
  · rw [if_pos k, if_pos k]
    show 0 :: Sh69Neutral.ints (Sh69.moved _ _ _ _ _) = _
    unfold Sh69.moved
    rw [ints_each, sg_int32 h1, sg_int32 h2]
    refine congrArg _ (rows_congr fun c r _ _ => ?_)
    rw [good_is h0]
    unfold moveG
    rw [Int.toNat_of_nonneg h3, Int.toNat_of_nonneg h4]
  · rw [if_neg k, if_neg k]
    rfl
theorem move_len {dx dy w h : Int} {ns : List Int} (h1 : 0 ≤ dx) (h2 : 0 ≤ dy) (h3 : 0 ≤ w) (h4 : 0 ≤ h) (ha : PySh69.sm_move_asked dx dy w h ns = true) (k : moveOk dx dy w h = true) : ns.length = w.toNat * h.toNat := by
  have q : (Sh69Neutral.asked1 [[1, dx, dy, w, h], ns] && decide ((Sh69Neutral.f [[1, dx, dy, w, h], ns]).length < 1000000)) = true := ha
  rw [Bool.and_eq_true] at q
  have q1 : (Sh69Neutral.natural dx 32 && (Sh69Neutral.natural dy 32 && (Sh69Neutral.natural w 32 && (Sh69Neutral.natural h 32 && (ns.all (fun (z : Int) => Sh69Neutral.natural z 16) && (if (Sh69.sized w.toNat h.toNat && Sh69.off (Sh69Neutral.int32 dx.toNat) (Sh69Neutral.int32 dy.toNat)) = true then ns.length == (w.toNat * h.toNat) else ns.isEmpty || ns.length == (w.toNat * h.toNat))))))) = true := q.1
  rw [moveCond h1 h2 h3 h4, if_pos k] at q1
  simp only [Bool.and_eq_true] at q1
  exact beq_iff_eq.mp q1.2.2.2.2.2
end Ps
namespace Ps
/-! ### sm_place: the mirror, and that it is the specification -/
def partA (x y : Int) : Int := (64 - (x - 32) % 64) * (64 - (y - 32) % 64)
def partB (x y : Int) : Int := (x - 32) % 64 * (64 - (y - 32) % 64)
def partC (x y : Int) : Int := (64 - (x - 32) % 64) * ((y - 32) % 64)
def partD (x y : Int) : Int := (x - 32) % 64 * ((y - 32) % 64)
def fourP (x y : Int) : List (Int × Int × Int) := [((x - 32) / 64, (y - 32) / 64, partA x y), ((x - 32) / 64 + 1, (y - 32) / 64, partB x y), ((x - 32) / 64, (y - 32) / 64 + 1, partC x y), ((x - 32) / 64 + 1, (y - 32) / 64 + 1, partD x y)]
theorem prod_le {a b : Int} (h1 : 0 ≤ a) (h2 : a ≤ 64) (h3 : 0 ≤ b) (h4 : b ≤ 64) : 0 ≤ a * b ∧ a * b ≤ 4096 := by
  refine ⟨Int.mul_nonneg h1 h3, ?_⟩
  have := Int.mul_le_mul h2 h4 h3 (by omega)
  omega
theorem fourP_bd {x y : Int} : ∀ p ∈ fourP x y, 0 ≤ p.2.2 ∧ p.2.2 ≤ 4096 := by
  have h1 : 0 ≤ (x - 32) % 64 := by omega
  have h2 : (x - 32) % 64 ≤ 63 := by omega
  have h3 : 0 ≤ (y - 32) % 64 := by omega
  have h4 : (y - 32) % 64 ≤ 63 := by omega
  intro p hp
  unfold fourP at hp
  simp only [List.mem_cons, List.not_mem_nil, or_false] at hp
  rcases hp with rfl | rfl | rfl | rfl
  · exact prod_le (by omega) (by omega) (by omega) (by omega)
  · exact prod_le (by omega) (by omega) (by omega) (by omega)
  · exact prod_le (by omega) (by omega) (by omega) (by omega)
  · exact prod_le (by omega) (by omega) (by omega) (by omega)
def okAt (w h : Int) (bs : List Int) (c r : Int) : Bool := inPic c r w h && decide (bs.getD (r * w + c).toNat 0 = 0)
def bstep (w h : Int) (fs bs : List Int) (s : Int × Int) (p : Int × Int × Int) : Int × Int := if okAt w h bs p.1 p.2.1 = true then (s.1 + fs.getD (p.2.1 * w + p.1).toNat 0 * p.2.2, s.2 + p.2.2) else s
def bsum (w h : Int) (fs bs : List Int) (l : List (Int × Int × Int)) : Int × Int := l.foldl (bstep w h fs bs) (0, 0)
def btw (w h : Int) (fs bs : List Int) (x y : Int) : Int × Int := if (bsum w h fs bs (fourP x y)).2 = 0 then (0, 0) else ((2 * (bsum w h fs bs (fourP x y)).1 + (bsum w h fs bs (fourP x y)).2) / (2 * (bsum w h fs bs (fourP x y)).2), (bsum w h fs bs (fourP x y)).2)
def oldX (A B C : Int) (c r : Nat) : Int := (A * (64 * (c : Int) + 32) - B * (64 * (r : Int) + 32)) / 16384 + C
def oldY (A B D : Int) (c r : Nat) : Int := (B * (64 * (c : Int) + 32) + A * (64 * (r : Int) + 32)) / 16384 + D
def placeG (A B C D w h : Int) (fs bs : List Int) (c r : Nat) : Int × Int := btw w h fs bs (oldX A B C c r) (oldY A B D c r)
def turnsOk (l : List Int) : Bool := l.all (inR (-65536) 65536)
def placeOk (a b c d u v w h : Int) : Bool := turnsOk [sg a, sg b] && (movesOk [sg c, sg d] && sidesOk [u, v, w, h])
def placeL (a b c d u v w h : Int) (fs bs : List Int) : List (Int × Int) := rows (placeG (sg a) (sg b) (sg c) (sg d) w h fs bs) u.toNat v.toNat
def twoAns (l : List (Int × Int)) : List Int := [0, (l.length : Int)] ++ l.map (·.1) ++ [(l.length : Int)] ++ l.map (·.2)
def placeAns (a b c d u v w h : Int) (fs bs : List Int) : List Int := if placeOk a b c d u v w h = true then twoAns (placeL a b c d u v w h fs bs) else [-2]
theorem placeOk_iff {a b c d u v w h : Int} : placeOk a b c d u v w h = true ↔ ((-65536 ≤ sg a ∧ sg a ≤ 65536) ∧ (-65536 ≤ sg b ∧ sg b ≤ 65536)) ∧ ((-8192 ≤ sg c ∧ sg c ≤ 8192) ∧ (-8192 ≤ sg d ∧ sg d ≤ 8192)) ∧ (1 ≤ u ∧ u ≤ 64) ∧ (1 ≤ v ∧ v ≤ 64) ∧ (1 ≤ w ∧ w ≤ 64) ∧ (1 ≤ h ∧ h ≤ 64) := by
  unfold placeOk turnsOk movesOk sidesOk
  simp only [List.all_cons, List.all_nil, Bool.and_true, Bool.and_eq_true, inR_iff]
theorem turned_iff {a b : Int} (ha : 0 ≤ a) (hb : 0 ≤ b) : Sh69.turned (Sh69Neutral.int32 a.toNat) (Sh69Neutral.int32 b.toNat) = true ↔ (-65536 ≤ sg a ∧ sg a ≤ 65536) ∧ (-65536 ≤ sg b ∧ sg b ≤ 65536) := by
  rw [sg_int32 ha, sg_int32 hb]
  unfold Sh69.turned Sh69.within
  simp only [Bool.and_eq_true, decide_eq_true_iff]
theorem placeCond {a b c d u v w h : Int} (h1 : 0 ≤ a) (h2 : 0 ≤ b) (h3 : 0 ≤ c) (h4 : 0 ≤ d) (h5 : 0 ≤ u) (h6 : 0 ≤ v) (h7 : 0 ≤ w) (h8 : 0 ≤ h) :
    (Sh69.sized w.toNat h.toNat && (Sh69.sized u.toNat v.toNat && (Sh69.turned (Sh69Neutral.int32 a.toNat) (Sh69Neutral.int32 b.toNat) && Sh69.off (Sh69Neutral.int32 c.toNat) (Sh69Neutral.int32 d.toNat)))) = placeOk a b c d u v w h := by
  rw [Bool.eq_iff_iff, placeOk_iff, Bool.and_eq_true, Bool.and_eq_true, Bool.and_eq_true, sized_iff h7 h8, sized_iff h5 h6, off_iff h3 h4, turned_iff h1 h2]
  constructor
  · rintro ⟨⟨a, b⟩, ⟨c, d⟩, e, f⟩
    exact ⟨e, f, c, d, a, b⟩
  · rintro ⟨e, f, c, d, a, b⟩
    exact ⟨⟨a, b⟩, ⟨c, d⟩, e, f⟩
theorem good_ok {w h : Nat} {fs bs : List Int} (h0 : ∀ n ∈ bs, 0 ≤ n) (c r : Int) : Sh69.good w h (Sh69Neutral.nats fs) (Sh69Neutral.nats bs) c r = if okAt w h bs c r = true then some (Sh69.num (Sh69Neutral.nats fs) (r * w + c).toNat) else none := by
  unfold Sh69.good okAt
  by_cases k : inPic c r w h = true
  · have k' := inPic_iff.mp k
    have e1 : r.toNat * w + c.toNat = (r * w + c).toNat := by
      have e1 : ((r.toNat * w + c.toNat : Nat) : Int) = r * w + c := by
        rw [Int.natCast_add, Int.natCast_mul, Int.toNat_of_nonneg k'.2.2.1, Int.toNat_of_nonneg k'.1]
      omega
    rw [if_neg (by omega)]
    show (if Sh69.num (Sh69Neutral.nats bs) (r.toNat * w + c.toNat) = 0 then some (Sh69.num (Sh69Neutral.nats fs) (r.toNat * w + c.toNat)) else none) = _
    rw [e1, k, Bool.true_and]
    have e2 := nats_getD h0 (r * w + c).toNat
    by_cases k2 : Sh69.num (Sh69Neutral.nats bs) (r * w + c).toNat = 0
    · rw [if_pos k2, if_pos (decide_eq_true (by omega))]
    · rw [if_neg k2, if_neg (fun z => k2 (by have := of_decide_eq_true z; omega))]
  · have k' : ¬ (0 ≤ c ∧ c < w ∧ 0 ≤ r ∧ r < h) := fun z => k (inPic_iff.mpr z)
    rw [if_pos (by omega), Bool.not_eq_true _ |>.mp k, Bool.false_and, if_neg Bool.false_ne_true]
def covOf (w h : Int) (bs : List Int) (p : Int × Int × Int) : Int := if okAt w h bs p.1 p.2.1 = true then p.2.2 else 0
def numOf (w h : Int) (fs bs : List Int) (p : Int × Int × Int) : Int := if okAt w h bs p.1 p.2.1 = true then fs.getD (p.2.1 * w + p.1).toNat 0 * p.2.2 else 0
theorem bstep_is (w h : Int) (fs bs : List Int) (s : Int × Int) (p : Int × Int × Int) : bstep w h fs bs s p = (s.1 + numOf w h fs bs p, s.2 + covOf w h bs p) := by
  unfold bstep numOf covOf
  by_cases k : okAt w h bs p.1 p.2.1 = true
  · rw [if_pos k, if_pos k, if_pos k]
  · rw [if_neg k, if_neg k, if_neg k, Int.add_zero, Int.add_zero]
theorem cov_cast {w h : Nat} {fs bs : List Int} (h0 : ∀ n ∈ bs, 0 ≤ n) (c r : Int) (part : Nat) : (((if (Sh69.good w h (Sh69Neutral.nats fs) (Sh69Neutral.nats bs) c r).isSome = true then part else 0 : Nat)) : Int) = covOf w h bs (c, r, (part : Int)) := by
  rw [good_ok h0]
  unfold covOf
  by_cases k : okAt w h bs c r = true
  · rw [if_pos k, if_pos k, if_pos (show (some _).isSome = true from rfl)]
  · rw [if_neg k, if_neg k, if_neg (by simp)]
    rfl
theorem num_cast {w h : Nat} {fs bs : List Int} (h0 : ∀ n ∈ bs, 0 ≤ n) (h1 : ∀ n ∈ fs, 0 ≤ n) (c r : Int) (part : Nat) : (((Sh69.good w h (Sh69Neutral.nats fs) (Sh69Neutral.nats bs) c r).getD 0 * part : Nat) : Int) = numOf w h fs bs (c, r, (part : Int)) := by
  rw [good_ok h0]
  unfold numOf
  by_cases k : okAt w h bs c r = true
  · rw [if_pos k, if_pos k, Int.natCast_mul]
    show ((Sh69.num (Sh69Neutral.nats fs) (r * w + c).toNat : Nat) : Int) * _ = _
    rw [nats_getD h1]
  · rw [if_neg k, if_neg k]
    show ((0 * part : Nat) : Int) = 0
    rw [Nat.zero_mul]
    rfl
theorem near_cast (a b : Nat) : ((Sh69.nearN a b : Nat) : Int) = (2 * (a : Int) + b) / (2 * b) := by
  unfold Sh69.nearN
  rw [Int.natCast_ediv, Int.natCast_add, Int.natCast_mul, Int.natCast_mul]
  rfl
theorem between_is {w h : Nat} {fs bs : List Int} (h0 : ∀ n ∈ bs, 0 ≤ n) (h1 : ∀ n ∈ fs, 0 ≤ n) (x y : Int) :
    (((Sh69.between w h (Sh69Neutral.nats fs) (Sh69Neutral.nats bs) x y).1 : Int), ((Sh69.between w h (Sh69Neutral.nats fs) (Sh69Neutral.nats bs) x y).2 : Int)) = btw w h fs bs x y := by
  have ep : ((((x - 32) % 64).toNat : Nat) : Int) = (x - 32) % 64 := Int.toNat_of_nonneg (by omega)
  have eq : ((((y - 32) % 64).toNat : Nat) : Int) = (y - 32) % 64 := Int.toNat_of_nonneg (by omega)
  have hp : ((x - 32) % 64).toNat ≤ 63 := by omega
  have hq : ((y - 32) % 64).toNat ≤ 63 := by omega
  unfold Sh69.between btw
  dsimp only
  generalize hP : ((x - 32) % 64).toNat = p at *
  generalize hQ : ((y - 32) % 64).toNat = q at *
  have c1 : (((64 - p) * (64 - q) : Nat) : Int) = partA x y := by
    unfold partA
    rw [Int.natCast_mul, ← ep, ← eq, Int.natCast_sub (by omega), Int.natCast_sub (by omega)]
    rfl
  have c2 : ((p * (64 - q) : Nat) : Int) = partB x y := by
    unfold partB
    rw [Int.natCast_mul, ← ep, ← eq, Int.natCast_sub (by omega)]
    rfl
  have c3 : (((64 - p) * q : Nat) : Int) = partC x y := by
    unfold partC
    rw [Int.natCast_mul, ← ep, ← eq, Int.natCast_sub (by omega)]
    rfl
  have c4 : ((p * q : Nat) : Int) = partD x y := by
    unfold partD
    rw [Int.natCast_mul, ← ep, ← eq]
  have e : bsum w h fs bs (fourP x y) = (0 + numOf w h fs bs ((x - 32) / 64, (y - 32) / 64, partA x y) + numOf w h fs bs ((x - 32) / 64 + 1, (y - 32) / 64, partB x y) + numOf w h fs bs ((x - 32) / 64, (y - 32) / 64 + 1, partC x y) + numOf w h fs bs ((x - 32) / 64 + 1, (y - 32) / 64 + 1, partD x y),
      0 + covOf w h bs ((x - 32) / 64, (y - 32) / 64, partA x y) + covOf w h bs ((x - 32) / 64 + 1, (y - 32) / 64, partB x y) + covOf w h bs ((x - 32) / 64, (y - 32) / 64 + 1, partC x y) + covOf w h bs ((x - 32) / 64 + 1, (y - 32) / 64 + 1, partD x y)) := by
    unfold bsum fourP
    simp only [List.foldl_cons, List.foldl_nil, bstep_is]
  rw [e]
  simp only [List.map_cons, List.map_nil, List.sum_cons, List.sum_nil]
  rw [← c1, ← c2, ← c3, ← c4, ← cov_cast (fs := fs) h0, ← cov_cast (fs := fs) h0, ← cov_cast (fs := fs) h0, ← cov_cast (fs := fs) h0, ← num_cast h0 h1, ← num_cast h0 h1, ← num_cast h0 h1, ← num_cast h0 h1]
  generalize (if (Sh69.good w h (Sh69Neutral.nats fs) (Sh69Neutral.nats bs) ((x - 32) / 64) ((y - 32) / 64)).isSome = true then (64 - p) * (64 - q) else 0) = k1
  generalize (if (Sh69.good w h (Sh69Neutral.nats fs) (Sh69Neutral.nats bs) ((x - 32) / 64 + 1) ((y - 32) / 64)).isSome = true then p * (64 - q) else 0) = k2
  generalize (if (Sh69.good w h (Sh69Neutral.nats fs) (Sh69Neutral.nats bs) ((x - 32) / 64) ((y - 32) / 64 + 1)).isSome = true then (64 - p) * q else 0) = k3
  generalize (if (Sh69.good w h (Sh69Neutral.nats fs) (Sh69Neutral.nats bs) ((x - 32) / 64 + 1) ((y - 32) / 64 + 1)).isSome = true then p * q else 0) = k4
  generalize (Sh69.good w h (Sh69Neutral.nats fs) (Sh69Neutral.nats bs) ((x - 32) / 64) ((y - 32) / 64)).getD 0 * ((64 - p) * (64 - q)) = m1
  generalize (Sh69.good w h (Sh69Neutral.nats fs) (Sh69Neutral.nats bs) ((x - 32) / 64 + 1) ((y - 32) / 64)).getD 0 * (p * (64 - q)) = m2
  generalize (Sh69.good w h (Sh69Neutral.nats fs) (Sh69Neutral.nats bs) ((x - 32) / 64) ((y - 32) / 64 + 1)).getD 0 * ((64 - p) * q) = m3
  generalize (Sh69.good w h (Sh69Neutral.nats fs) (Sh69Neutral.nats bs) ((x - 32) / 64 + 1) ((y - 32) / 64 + 1)).getD 0 * (p * q) = m4
  have ek : ((k1 + (k2 + (k3 + (k4 + 0))) : Nat) : Int) = 0 + (k1 : Int) + k2 + k3 + k4 := by omega
  have em : ((m1 + (m2 + (m3 + (m4 + 0))) : Nat) : Int) = 0 + (m1 : Int) + m2 + m3 + m4 := by omega
  by_cases z : k1 + (k2 + (k3 + (k4 + 0))) = 0
  · rw [if_pos z, if_pos (by omega)]
    rfl
  · rw [if_neg z, if_neg (by omega)]
    refine Prod.ext ?_ ek
    show ((Sh69.nearN _ _ : Nat) : Int) = _
    rw [near_cast, em, ek]
theorem place_is {a b c d u v w h : Int} {fs bs : List Int} (h1 : 0 ≤ a) (h2 : 0 ≤ b) (h3 : 0 ≤ c) (h4 : 0 ≤ d) (h5 : 0 ≤ u) (h6 : 0 ≤ v) (h7 : 0 ≤ w) (h8 : 0 ≤ h) (hf : ∀ n ∈ fs, 0 ≤ n) (hb : ∀ n ∈ bs, 0 ≤ n) :
    PySh69.sm_place a b c d u v w h fs bs = placeAns a b c d u v w h fs bs := by
  show Sh69Neutral.told (Sh69.answer (if (Sh69.sized w.toNat h.toNat && (Sh69.sized u.toNat v.toNat && (Sh69.turned (Sh69Neutral.int32 a.toNat) (Sh69Neutral.int32 b.toNat) && Sh69.off (Sh69Neutral.int32 c.toNat) (Sh69Neutral.int32 d.toNat)))) = true then Sh69.Call.place (Sh69Neutral.int32 a.toNat) (Sh69Neutral.int32 b.toNat) (Sh69Neutral.int32 c.toNat) (Sh69Neutral.int32 d.toNat) u.toNat v.toNat w.toNat h.toNat (Sh69Neutral.nats fs) (Sh69Neutral.nats bs) else Sh69.Call.bad)) = _
  rw [placeCond h1 h2 h3 h4 h5 h6 h7 h8]
  unfold placeAns
  by_cases k : placeOk a b c d u v w h = true
  · rw [if_pos k, if_pos k]
    have key : (Sh69.placed ⟨sg a, sg b, sg c, sg d⟩ u.toNat v.toNat w.toNat h.toNat (Sh69Neutral.nats fs) (Sh69Neutral.nats bs)).map (fun p => ((p.1 : Int), (p.2 : Int))) = placeL a b c d u v w h fs bs := by
      unfold placeL
      show (rows (fun c' r' => Sh69.between w.toNat h.toNat (Sh69Neutral.nats fs) (Sh69Neutral.nats bs) (oldX (sg a) (sg b) (sg c) c' r') (oldY (sg a) (sg b) (sg d) c' r')) u.toNat v.toNat).map _ = _
      rw [rows_map]
      refine rows_congr fun c' r' _ _ => ?_
      rw [between_is hb hf, Int.toNat_of_nonneg h7, Int.toNat_of_nonneg h8]
      rfl
    rw [sg_int32 h1, sg_int32 h2, sg_int32 h3, sg_int32 h4]
    show (0 : Int) :: ([_, _] : List (List Nat)).flatMap _ = _
    simp only [List.flatMap_cons, List.flatMap_nil, List.append_nil]
    generalize Sh69.placed ⟨sg a, sg b, sg c, sg d⟩ u.toNat v.toNat w.toNat h.toNat (Sh69Neutral.nats fs) (Sh69Neutral.nats bs) = l at key
    rw [← key]
    unfold twoAns Sh69Neutral.ints
    simp only [List.map_map, List.length_map, List.cons_append, List.nil_append, List.append_assoc]
    rfl
  · rw [if_neg k, if_neg k]
    rfl
theorem place_len {a b c d u v w h : Int} {fs bs : List Int} (h1 : 0 ≤ a) (h2 : 0 ≤ b) (h3 : 0 ≤ c) (h4 : 0 ≤ d) (h5 : 0 ≤ u) (h6 : 0 ≤ v) (h7 : 0 ≤ w) (h8 : 0 ≤ h) (ha : PySh69.sm_place_asked a b c d u v w h fs bs = true) (k : placeOk a b c d u v w h = true) : fs.length = w.toNat * h.toNat ∧ bs.length = w.toNat * h.toNat := by
  have q : (Sh69Neutral.asked1 [[0, a, b, c, d, u, v, w, h], fs, bs] && decide ((Sh69Neutral.f [[0, a, b, c, d, u, v, w, h], fs, bs]).length < 1000000)) = true := ha
  rw [Bool.and_eq_true] at q
  have q1 : (Sh69Neutral.natural a 32 && (Sh69Neutral.natural b 32 && (Sh69Neutral.natural c 32 && (Sh69Neutral.natural d 32 && (Sh69Neutral.natural u 32 && (Sh69Neutral.natural v 32 && (Sh69Neutral.natural w 32 && (Sh69Neutral.natural h 32 && (fs.all (fun (z : Int) => Sh69Neutral.natural z 16) && (bs.all (fun (z : Int) => Sh69Neutral.natural z 8) && (if (Sh69.sized w.toNat h.toNat && (Sh69.sized u.toNat v.toNat && (Sh69.turned (Sh69Neutral.int32 a.toNat) (Sh69Neutral.int32 b.toNat) && Sh69.off (Sh69Neutral.int32 c.toNat) (Sh69Neutral.int32 d.toNat)))) = true then fs.length == (w.toNat * h.toNat) && bs.length == (w.toNat * h.toNat) else (fs.isEmpty && bs.isEmpty) || (fs.length == (w.toNat * h.toNat) && bs.length == (w.toNat * h.toNat))))))))))))) = true := q.1
  rw [placeCond h1 h2 h3 h4 h5 h6 h7 h8, if_pos k] at q1
  simp only [Bool.and_eq_true] at q1
  have z := q1.2.2.2.2.2.2.2.2.2.2
  exact ⟨beq_iff_eq.mp z.1, beq_iff_eq.mp z.2⟩
end Ps
/-! ### the text by places -/
namespace Ps
open PySem L2
def topS (i : Nat) : Stmt := PySem.Challenge.pw_picturestack_s01_sm_place.main.body.getD i (.Pass ⟨0, 0, 0, 0⟩)
abbrev sSigned : Stmt := topS 10
abbrev sWithin : Stmt := topS 11
abbrev sTurns : Stmt := topS 12
abbrev sMoves : Stmt := topS 13
abbrev sSides : Stmt := topS 14
abbrev sRounded : Stmt := topS 15
abbrev sTold : Stmt := topS 16
abbrev sMiddle : Stmt := topS 17
abbrev sInPic : Stmt := topS 18
abbrev sFour : Stmt := topS 19
abbrev sBetween : Stmt := topS 20
abbrev sPlaced : Stmt := topS 21
abbrev sPlace : Stmt := topS 22
end Ps
/-! ### defs that several calls share -/
namespace Ps
open PySem PySem.Spec PyProof.Rows L2
theorem same_upd {H : Hp} {p : Addr} {o : HO} (h : H p = none) : Same H (upd H p o) := fun b x e => by
  rw [upd_ne (ne_of_none e h)]
  exact e
/-- a store to what was not tracked at the start -/
theorem same_put {H H1 : Hp} {p : Addr} {o : HO} (s : Same H H1) (h : H p = none) : Same H (upd H1 p o) := fun b x e => by
  rw [upd_ne (ne_of_none e h)]
  exact s _ _ e
theorem map_at {α β : Type} {f : α → β} {ns : List α} {i : Nat} {y : β} (hi : (ns.map f)[i]? = some y) : ∃ z, ns[i]? = some z ∧ y = f z := by
  rw [List.getElem?_map] at hi
  cases e : ns[i]? with
  | none =>
    rw [e] at hi
    cases hi
  | some z =>
    rw [e] at hi
    exact ⟨z, rfl, (Option.some.inj hi).symm⟩
theorem take_more {α : Type} {l : List α} {i : Nat} {x : α} (h : l[i]? = some x) : l.take (i + 1) = l.take i ++ [x] := by
  rw [List.take_add_one, h]
  rfl
/-- a name of the module that holds a whole number -/
theorem pe_gi {X : Cx} {x : Str} {pos : Pos} {i : Int} {t} (hg : Gl X x) (hm : X.mg x = some (.int i t)) (hd : (x == ("__debug__" : Str)) = false := by decide) : PE X (.Name x pos) (tC (.int i)) := pe_glob hg hm ⟨_, rfl⟩ hd
theorem line {n : Nat} (h : n ≤ 100000) : n < sizeLine := Nat.lt_of_le_of_lt h (by decide)
section
variable {P : Program} {w : World} {K : PySem.W.Frag} {mg : Str → Option Value} {base : Heap}
/-! signed -/
def spSigned : Sp := fun vs H Q _ => ∃ x : Int, vs = [.int x] ∧ Q (.int (sg x)) H
theorem scSigned : FnScope ["word"] ["word"] (defScope sSigned) := ⟨rfl, rfl, rfl, by decide +kernel, rfl, by decide +kernel, by decide +kernel⟩
theorem ok_signed {f : Addr} {fd : FuncData} {t1 t2} (F : Fun K "signed" "signed" sSigned f fd) (gH : mg "HALF_WORD" = some (.int 2147483648 t1)) (gW : mg "WORD" = some (.int 4294967296 t2)) : FnOk P w K mg base CX0 1 f fd ["word"] spSigned := by
  refine F.ok scSigned (fun vs H Q E h => ?_) (fun cdv A outer s H vs Q E hr h => ?_)
  · obtain ⟨x, rfl, _⟩ := h
    rfl
  · obtain ⟨x, rfl, q⟩ := h
    refine ⟨_, pss_cons (ps_if (pt_cmpR op_ge (pv 0) (pe_gi (by rfl) gH) (nomark _)) (pss_one (ps_ret (pe_op op_sub (pv 0) (pe_gi (by rfl) gW)))) pss_nil) (pss_one (ps_ret (pv 0))), ?_⟩
    refine ⟨_, rfl, _, _, rfl, rfl, _, rfl, ite2 (fun e => ?_) (fun e => ?_)⟩
    · refine ⟨_, rfl, _, _, rfl, rfl, ?_⟩
      unfold sg at q
      rw [if_pos (of_decide_eq_true e)] at q
      exact q
    · refine ⟨_, rfl, ?_⟩
      unfold sg at q
      rw [if_neg (fun z => e (decide_eq_true z))] at q
      exact q
/-! all_within -/
def spWithin (K : PySem.W.Frag) : Sp := fun vs H Q _ => ∃ (a : Addr) (ns : List Int) (lo hi : Int), vs = [.ref a, .int lo, .int hi] ∧ SqL K H a (ns.map V.int) ∧ ns.length ≤ 1000 ∧ ∀ H', Same H H' → Q (.bl (ns.all (inR lo hi))) H'
abbrev nWithin : List Str := ["numbers", "least", "most", "number"]
theorem scWithin : FnScope nWithin ["numbers", "least", "most"] (defScope sWithin) := ⟨rfl, rfl, rfl, by decide +kernel, rfl, by decide +kernel, by decide +kernel⟩
theorem ok_within {f : Addr} {fd : FuncData} (F : Fun K "all_within" "all_within" sWithin f fd) (mA : mg "all" = none) : FnOk P w K mg base CX0 1 f fd ["numbers", "least", "most"] (spWithin K) := by
  refine F.ok scWithin (fun vs H Q E h => ?_) (fun cdv A outer s H vs Q E hr h => ?_)
  · obtain ⟨a, ns, lo, hi, rfl, _⟩ := h
    rfl
  · obtain ⟨a, ns, lo, hi, rfl, hS, hlen, q⟩ := h
    refine ⟨_, pss_one (ps_ret (pe_callB (cr_all rfl) (by rfl) mA (by decide +kernel) (pa_cons (pe_lc (own := [("number", 3)]) (g := gName 3) (tt := tYes) rfl scWithin.nd (pi_list (pv 0)) (blkOk_by (N := nWithin) (sc := defScope sWithin) (by decide +kernel))
      (fun _ _ _ _ _ => pg_name (i := 3) scWithin.nd rfl (Or.inl rfl)) (fun _ _ _ _ _ => pts_nil) (fun _ _ _ _ _ => pe_chain op_le op_le (pv 1) (pv 3) (pv 2))) pa_nil))), ?_⟩
    refine ⟨_, rfl, a, rfl, ⟨_, hS⟩, fun D hD => ?_⟩
    refine lc_list (K := K) (a := a) (xs := ns.map V.int) (fun i H' => Same H H' ∧ H' D = some (.lst ((ns.take i).map fun n => V.bl (inR lo hi n)))) ⟨same_upd hD, upd_same⟩ (fun i H' _ p => p.1.seq hS) ?_ ?_
    · rintro i y H' hi' ⟨sm, hd⟩
      obtain ⟨z, hz, rfl⟩ := map_at hi'
      refine ⟨rfl, ?_⟩
      have fin : ∀ b : Bool, b = inR lo hi z → ∃ acc, H' D = some (.lst acc) ∧ acc.length < sizeLine ∧ (Same H (upd H' D (.lst (acc ++ [V.bl b]))) ∧ (upd H' D (.lst (acc ++ [V.bl b]))) D = some (.lst ((ns.take (i + 1)).map fun n => V.bl (inR lo hi n)))) := fun b e => by
        refine ⟨_, hd, ?_, same_put sm hD, ?_⟩
        · rw [List.length_map, List.length_take]
          exact small1000 (Nat.le_trans (Nat.min_le_right _ _) hlen)
        · rw [upd_same, take_more hz, List.map_append, e]
          rfl
      refine ⟨_, rfl, _, rfl, _, _, rfl, rfl, _, rfl, ite2 (fun e => ?_) (fun e => ?_)⟩
      · refine ⟨_, rfl, _, _, rfl, rfl, ?_⟩
        refine fin _ ?_
        unfold inR
        rw [e]
        rfl
      · refine fin _ ?_
        unfold inR
        rw [Bool.not_eq_true _ |>.mp e]
        rfl
    · rintro H' ⟨sm, hd⟩
      rw [List.length_map, List.take_length] at hd
      refine ⟨D, ns.map (inR lo hi), rfl, SqL.of ?_, ?_⟩
      · rw [hd, List.map_map]
        rfl
      · rw [List.all_map]
        exact q H' sm
/-! all_moves, all_sides: within two numbers -/
def spRange (K : PySem.W.Frag) (lo hi : Int) : Sp := fun vs H Q _ => ∃ (a : Addr) (ns : List Int), vs = [.ref a] ∧ SqL K H a (ns.map V.int) ∧ ns.length ≤ 1000 ∧ ∀ H', Same H H' → Q (.bl (ns.all (inR lo hi))) H'
theorem scMoves : FnScope ["numbers"] ["numbers"] (defScope sMoves) := ⟨rfl, rfl, rfl, by decide +kernel, rfl, by decide +kernel, by decide +kernel⟩
theorem ok_moves {f fW : Addr} {fd fdW : FuncData} {t1} (F : Fun K "all_moves" "all_moves" sMoves f fd) (FW : Fun K "all_within" "all_within" sWithin fW fdW) (bW : Binds K fdW ["numbers", "least", "most"] []) (gW : mg "all_within" = some (.ref fW)) (mA : mg "all" = none) (gM : mg "MOVE_MOST" = some (.int 8192 t1)) :
    FnOk P w K mg base CX0 2 f fd ["numbers"] (spRange K (-8192) 8192) := by
  have GW : FnOk P w K mg base CX0 1 fW fdW ["numbers", "least", "most"] (spWithin K) := ok_within FW mA
  refine F.ok scMoves (fun vs H Q E h => ?_) (fun cdv A outer s H vs Q E hr h => ?_)
  · obtain ⟨a, ns, rfl, _⟩ := h
    rfl
  · obtain ⟨a, ns, rfl, hS, hlen, q⟩ := h
    refine ⟨_, pss_one (ps_ret (pe_call GW hr (by rfl) gW FW.kp bW .nil pass0 (pa_cons (pv 0) (pa_cons (pe_un un_neg (pe_gi (by rfl) gM)) (pa_cons (pe_gi (by rfl) gM) pa_nil))))), ?_⟩
    exact ⟨_, rfl, _, rfl, a, ns, -8192, 8192, rfl, hS, hlen, q⟩
theorem scSides : FnScope ["numbers"] ["numbers"] (defScope sSides) := ⟨rfl, rfl, rfl, by decide +kernel, rfl, by decide +kernel, by decide +kernel⟩
theorem ok_sides {f fW : Addr} {fd fdW : FuncData} {t1} (F : Fun K "all_sides" "all_sides" sSides f fd) (FW : Fun K "all_within" "all_within" sWithin fW fdW) (bW : Binds K fdW ["numbers", "least", "most"] []) (gW : mg "all_within" = some (.ref fW)) (mA : mg "all" = none) (gM : mg "SIDE_MOST" = some (.int 64 t1)) :
    FnOk P w K mg base CX0 2 f fd ["numbers"] (spRange K 1 64) := by
  have GW : FnOk P w K mg base CX0 1 fW fdW ["numbers", "least", "most"] (spWithin K) := ok_within FW mA
  refine F.ok scSides (fun vs H Q E h => ?_) (fun cdv A outer s H vs Q E hr h => ?_)
  · obtain ⟨a, ns, rfl, _⟩ := h
    rfl
  · obtain ⟨a, ns, rfl, hS, hlen, q⟩ := h
    refine ⟨_, pss_one (ps_ret (pe_call GW hr (by rfl) gW FW.kp bW .nil pass0 (pa_cons (pv 0) (pa_cons pe_int (pa_cons (pe_gi (by rfl) gM) pa_nil))))), ?_⟩
    exact ⟨_, rfl, a, ns, 1, 64, rfl, hS, hlen, q⟩
/-! in_picture -/
def spInPic : Sp := fun vs H Q _ => ∃ c r w h : Int, vs = [.int c, .int r, .int w, .int h] ∧ Q (.bl (inPic c r w h)) H
theorem scInPic : FnScope ["column", "row", "w", "h"] ["column", "row", "w", "h"] (defScope sInPic) := ⟨rfl, rfl, rfl, by decide +kernel, rfl, by decide +kernel, by decide +kernel⟩
theorem ok_inpic {f : Addr} {fd : FuncData} (F : Fun K "in_picture" "in_picture" sInPic f fd) : FnOk P w K mg base CX0 1 f fd ["column", "row", "w", "h"] spInPic := by
  refine F.ok scInPic (fun vs H Q E h => ?_) (fun cdv A outer s H vs Q E hr h => ?_)
  · obtain ⟨c, r, w, h, rfl, _⟩ := h
    rfl
  · obtain ⟨c, r, w, h, rfl, q⟩ := h
    refine ⟨_, pss_one (ps_ret (pe_and (pe_chain op_le op_lt pe_int (pv 0) (pv 2)) (pe_one (pe_chain op_le op_lt pe_int (pv 1) (pv 3))))), ?_⟩
    unfold inPic at q
    refine ⟨_, rfl, _, _, rfl, rfl, _, rfl, ite2 (fun e1 => ?_) (fun e1 => ?_)⟩
    · rw [e1, Bool.true_and] at q
      refine ⟨_, rfl, _, _, rfl, rfl, _, rfl, ite2 (fun e2 => ?_) (fun e2 => ?_)⟩
      · rw [e2, Bool.true_and] at q
        refine ⟨_, rfl, _, _, rfl, rfl, _, rfl, ite2 (fun e3 => ?_) (fun e3 => ?_)⟩
        · rw [e3, Bool.true_and] at q
          exact ⟨_, rfl, _, _, rfl, rfl, q⟩
        · rw [Bool.not_eq_true _ |>.mp e3, Bool.false_and] at q
          exact q
      · rw [Bool.not_eq_true _ |>.mp e2, Bool.false_and] at q
        exact q
    · rw [Bool.not_eq_true _ |>.mp e1, Bool.false_and] at q
      exact ⟨_, rfl, iteF q⟩
end
end Ps
/-! ### lists of tuples -/
namespace Ps
open PySem PySem.Spec PyProof.Rows L2
/-- vs are tuples that stand in H, one for each of xs -/
def RowsAt {α : Type} (t : α → List V) (H : Hp) : List V → List α → Prop
  | [], [] => True
  | v :: vs, x :: xs => (∃ a, v = V.ref a ∧ H a = some (.tup (t x))) ∧ RowsAt t H vs xs
  | _, _ => False
section
variable {α : Type} {t : α → List V} {H H' : Hp}
theorem RowsAt.mono (k : ∀ a xs, H a = some (.tup xs) → H' a = some (.tup xs)) : ∀ {vs : List V} {xs : List α}, RowsAt t H vs xs → RowsAt t H' vs xs
  | [], [], _ => trivial
  | v :: vs, x :: xs, h => by
    obtain ⟨⟨a, e, q⟩, r⟩ := h
    exact ⟨⟨a, e, k _ _ q⟩, RowsAt.mono k r⟩
  | [], _ :: _, h => False.elim h
  | _ :: _, [], h => False.elim h
theorem RowsAt.len : ∀ {vs : List V} {xs : List α}, RowsAt t H vs xs → vs.length = xs.length
  | [], [], _ => rfl
  | v :: vs, x :: xs, h => by
    rw [List.length_cons, List.length_cons, RowsAt.len h.2]
  | [], _ :: _, h => False.elim h
  | _ :: _, [], h => False.elim h
theorem RowsAt.snoc {a : Addr} {x : α} (q : H a = some (.tup (t x))) : ∀ {vs : List V} {xs : List α}, RowsAt t H vs xs → RowsAt t H (vs ++ [.ref a]) (xs ++ [x])
  | [], [], _ => ⟨⟨a, rfl, q⟩, trivial⟩
  | v :: vs, x :: xs, h => ⟨h.1, RowsAt.snoc q h.2⟩
  | [], _ :: _, h => False.elim h
  | _ :: _, [], h => False.elim h
theorem RowsAt.get : ∀ {vs : List V} {xs : List α} {i : Nat} {v : V}, RowsAt t H vs xs → vs[i]? = some v → ∃ x a, xs[i]? = some x ∧ v = .ref a ∧ H a = some (.tup (t x))
  | [], [], i, v, _, e => by simp at e
  | u :: vs, x :: xs, 0, v, h, e => by
    obtain ⟨⟨a, e1, q⟩, _⟩ := h
    have e2 : u = v := Option.some.inj e
    exact ⟨x, a, rfl, e2.symm.trans e1, q⟩
  | u :: vs, x :: xs, i + 1, v, h, e => RowsAt.get (i := i) h.2 e
  | [], _ :: _, _, _, h, _ => False.elim h
  | _ :: _, [], _, _, h, _ => False.elim h
end
theorem Same.tup {H H' : Hp} (s : Same H H') : ∀ a xs, H a = some (.tup xs) → H' a = some (.tup xs) := fun _ _ h => s _ _ h
/-- a store to a list -/
theorem tup_put {H : Hp} {p : Addr} {ys : List V} {o : HO} (h : H p = some (.lst ys)) : ∀ a xs, H a = some (.tup xs) → (upd H p o) a = some (.tup xs) := fun a xs e => by
  rw [upd_ne (ne_of e h (by intro z; cases z))]
  exact e
end Ps
/-! ### comprehensions, and lists of things that stand in the heap -/
namespace Ps
open PySem PySem.Spec PyProof.Rows L2
/-- one by one -/
def All2 {α β : Type} (R : α → β → Prop) : List α → List β → Prop
  | [], [] => True
  | v :: vs, x :: xs => R v x ∧ All2 R vs xs
  | [], _ :: _ => False
  | _ :: _, [] => False
section
variable {α β : Type} {R R' : α → β → Prop}
theorem All2.mono (k : ∀ v x, R v x → R' v x) : ∀ {vs : List α} {xs : List β}, All2 R vs xs → All2 R' vs xs
  | [], [], _ => trivial
  | _ :: _, _ :: _, h => ⟨k _ _ h.1, All2.mono k h.2⟩
  | [], _ :: _, h => False.elim h
  | _ :: _, [], h => False.elim h
theorem All2.len : ∀ {vs : List α} {xs : List β}, All2 R vs xs → vs.length = xs.length
  | [], [], _ => rfl
  | _ :: _, _ :: _, h => by
    rw [List.length_cons, List.length_cons, All2.len h.2]
  | [], _ :: _, h => False.elim h
  | _ :: _, [], h => False.elim h
theorem All2.snoc {v : α} {x : β} (q : R v x) : ∀ {vs : List α} {xs : List β}, All2 R vs xs → All2 R (vs ++ [v]) (xs ++ [x])
  | [], [], _ => ⟨q, trivial⟩
  | _ :: _, _ :: _, h => ⟨h.1, All2.snoc q h.2⟩
  | [], _ :: _, h => False.elim h
  | _ :: _, [], h => False.elim h
theorem All2.get : ∀ {vs : List α} {xs : List β} {i : Nat} {v : α}, All2 R vs xs → vs[i]? = some v → ∃ x, xs[i]? = some x ∧ R v x
  | [], [], i, v, _, e => by simp at e
  | u :: vs, x :: xs, 0, v, h, e => by
    have e2 : u = v := Option.some.inj e
    exact ⟨x, rfl, e2 ▸ h.1⟩
  | u :: vs, x :: xs, i + 1, v, h, e => All2.get (i := i) h.2 e
  | [], _ :: _, _, _, h, _ => False.elim h
  | _ :: _, [], _, _, h, _ => False.elim h
end
/-- the value is the whole number -/
def isI : Hp → V → Int → Prop := fun _ v x => v = .int x
/-- the value is an object that isn't at D -/
def isO {α : Type} (D : Addr) (o : α → HO) : Hp → V → α → Prop := fun H v x => ∃ a, a ≠ D ∧ v = .ref a ∧ H a = some (o x)
/-- the value is an object -/
def atO {α : Type} (o : α → HO) : Hp → V → α → Prop := fun H v x => ∃ a, v = .ref a ∧ H a = some (o x)
theorem isO.at {α : Type} {D : Addr} {o : α → HO} {H : Hp} {vs : List V} {xs : List α} (h : All2 (isO D o H) vs xs) : All2 (atO o H) vs xs := h.mono fun _ _ ⟨a, _, e, q⟩ => ⟨a, e, q⟩
theorem atO.same {α : Type} {o : α → HO} {H H' : Hp} {vs : List V} {xs : List α} (s : Same H H') (h : All2 (atO o H) vs xs) : All2 (atO o H') vs xs := h.mono fun _ _ ⟨a, e, q⟩ => ⟨a, e, s _ _ q⟩
theorem isI.map {H : Hp} : ∀ {vs : List V} {ns : List Int}, All2 (isI H) vs ns → vs = ns.map V.int
  | [], [], _ => rfl
  | v :: vs, n :: ns, h => by
    rw [List.map_cons, isI.map h.2]
    exact congrArg (· :: _) h.1
  | [], _ :: _, h => False.elim h
  | _ :: _, [], h => False.elim h
def Stable {α : Type} (D : Addr) (R : Hp → V → α → Prop) : Prop := ∀ H H' v x, (∀ b u, b ≠ D → H b = some u → H' b = some u) → R H v x → R H' v x
theorem stI {D : Addr} : Stable D isI := fun _ _ _ _ _ h => h
theorem stO {α : Type} {D : Addr} {o : α → HO} : Stable D (isO D o) := fun _ _ _ _ k ⟨a, n, e, q⟩ => ⟨a, n, e, k _ _ n q⟩
/-- a list is being made at D: after i turns it holds L i -/
def LcInv {α : Type} (H1 : Hp) (D : Addr) (R : Hp → V → α → Prop) (L : Nat → List α) (i : Nat) (H : Hp) : Prop := Same H1 H ∧ ∃ acc, H D = some (.lst acc) ∧ All2 (R H) acc (L i)
section
variable {α : Type} {H1 : Hp} {D : Addr} {R : Hp → V → α → Prop} {L : Nat → List α} {i : Nat} {H H' : Hp}
theorem lc0 (nD : H1 D = none) (e : L 0 = []) : LcInv H1 D R L 0 (upd H1 D (.lst [])) := by
  refine ⟨same_upd nD, [], upd_same, ?_⟩
  rw [e]
  trivial
theorem lcMore (st : Stable D R) (nD : H1 D = none) (inv : LcInv H1 D R L i H) (s : Same H H') {y : V} {z : α} (r : R H' y z) (e : L (i + 1) = L i ++ [z]) (room : (L i).length ≤ 100000) :
    ∃ acc, H' D = some (.lst acc) ∧ acc.length < sizeLine ∧ LcInv H1 D R L (i + 1) (upd H' D (.lst (acc ++ [y]))) := by
  obtain ⟨s1, acc, hd, ha⟩ := inv
  have put : ∀ b u, b ≠ D → H' b = some u → (upd H' D (.lst (acc ++ [y]))) b = some u := fun b u n q => by
    rw [upd_ne n]
    exact q
  refine ⟨acc, s _ _ hd, ?_, same_put (s1.trans s) nD, acc ++ [y], upd_same, ?_⟩
  · rw [ha.len]
    exact line room
  · rw [e]
    refine All2.snoc (st _ _ _ _ put r) (ha.mono fun v x q => ?_)
    exact st _ _ _ _ (fun b u n z => put b u n (s _ _ z)) q
theorem lcSkip (st : Stable D R) (inv : LcInv H1 D R L i H) (s : Same H H') (e : L (i + 1) = L i) : LcInv H1 D R L (i + 1) H' := by
  obtain ⟨s1, acc, hd, ha⟩ := inv
  refine ⟨s1.trans s, acc, s _ _ hd, ?_⟩
  rw [e]
  exact ha.mono fun v x q => st _ _ _ _ (fun b u _ z => s _ _ z) q
theorem lcNe (inv : LcInv H1 D R L i H) {p : Addr} (np : H p = none) : p ≠ D := fun e => by
  obtain ⟨_, acc, hd, _⟩ := inv
  rw [e, hd] at np
  cases np
theorem lcInts {L : Nat → List Int} (inv : LcInv H1 D isI L i H) : Same H1 H ∧ H D = some (.lst ((L i).map V.int)) := by
  obtain ⟨s1, acc, hd, ha⟩ := inv
  rw [isI.map ha] at hd
  exact ⟨s1, hd⟩
theorem lcObjs {o : α → HO} (inv : LcInv H1 D (isO D o) L i H) : Same H1 H ∧ ∃ acc, H D = some (.lst acc) ∧ All2 (atO o H) acc (L i) := by
  obtain ⟨s1, acc, hd, ha⟩ := inv
  exact ⟨s1, acc, hd, isO.at ha⟩
end
theorem take_map_more {α β : Type} {f : α → β} {l : List α} {i : Nat} {x : α} (h : l[i]? = some x) : (l.take (i + 1)).map f = (l.take i).map f ++ [f x] := by
  rw [take_more h, List.map_append]
  rfl
theorem take_filter_yes {α : Type} {f : α → Bool} {l : List α} {i : Nat} {x : α} (h : l[i]? = some x) (k : f x = true) : (l.take (i + 1)).filter f = (l.take i).filter f ++ [x] := by
  rw [take_more h, List.filter_append, List.filter_cons_of_pos k]
  rfl
theorem take_filter_no {α : Type} {f : α → Bool} {l : List α} {i : Nat} {x : α} (h : l[i]? = some x) (k : ¬ f x = true) : (l.take (i + 1)).filter f = (l.take i).filter f := by
  rw [take_more h, List.filter_append, List.filter_cons_of_neg k]
  simp
theorem range_more {α : Type} (f : Nat → α) (i : Nat) : (List.range (i + 1)).map f = (List.range i).map f ++ [f i] := by
  rw [List.range_succ, List.map_append]
  rfl
/-! a pair of whole numbers -/
def prO (p : Int × Int) : HO := .tup [.int p.1, .int p.2]
def lsO (ns : List Int) : HO := .lst (ns.map V.int)
end Ps
/-! ### rounded -/
namespace Ps
open PySem PySem.Spec PyProof.Rows L2
section
variable {P : Program} {w : World} {K : PySem.W.Frag} {mg : Str → Option Value} {base : Heap}
def rnd (a b : Int) : Int := if b = 0 then 0 else (2 * a + b) / (2 * b)
def spRnd : Sp := fun vs H Q _ => ∃ a b : Int, vs = [.int a, .int b] ∧ 0 ≤ b ∧ b ≤ 4294967296 ∧ Q (.int (rnd a b)) H
theorem scRnd : FnScope ["dividend", "divisor"] ["dividend", "divisor"] (defScope sRounded) := ⟨rfl, rfl, rfl, by decide +kernel, rfl, by decide +kernel, by decide +kernel⟩
theorem ok_rnd {f : Addr} {fd : FuncData} (F : Fun K "rounded" "rounded" sRounded f fd) : FnOk P w K mg base CX0 1 f fd ["dividend", "divisor"] spRnd := by
  refine F.ok scRnd (fun vs H Q E h => ?_) (fun cdv A outer s H vs Q E hr h => ?_)
  · obtain ⟨a, b, rfl, _⟩ := h
    rfl
  · obtain ⟨a, b, rfl, h1, h2, q⟩ := h
    refine ⟨_, pss_cons (ps_if (pt_cmpR op_eq (pv 1) pe_int (nomark _)) (pss_one (ps_ret pe_int)) pss_nil) (pss_one (ps_ret (pe_op op_fdivW (pe_op op_add (pe_op op_mul pe_int (pv 0)) (pv 1)) (pe_op op_mul pe_int (pv 1))))), ?_⟩
    refine ⟨_, rfl, rfl, _, rfl, ite2 (fun e => ?_) (fun e => ?_)⟩
    · have e0 : b = 0 := V.int.inj (of_decide_eq_true e)
      unfold rnd at q
      rw [if_pos e0] at q
      exact q
    · have e0 : ¬ b = 0 := fun z => e (decide_eq_true (congrArg V.int z))
      unfold rnd at q
      rw [if_neg e0] at q
      refine ⟨_, rfl, _, _, rfl, rfl, .inl ⟨by decide, by decide⟩, _, rfl, _, _, rfl, rfl, _, rfl, _, _, rfl, rfl, .inl ⟨by decide, by decide⟩, _, _, rfl, rfl, wide_div (b := 64) (by omega) ?_ (by decide) (by decide), q⟩
      show (2 * b).natAbs < 18446744073709551616
      omega
end
end Ps
/-! ### told -/
namespace Ps
open PySem PySem.Spec PyProof.Rows L2
section
variable {P : Program} {w : World} {K : PySem.W.Frag} {mg : Str → Option Value} {base : Heap}
def toldOf (nss : List (List Int)) : List Int := 0 :: nss.flatMap fun ns => (ns.length : Int) :: ns
theorem told_more {nss : List (List Int)} {i : Nat} {ns : List Int} (h : nss[i]? = some ns) : toldOf (nss.take (i + 1)) = (toldOf (nss.take i) ++ [(ns.length : Int)]) ++ ns := by
  unfold toldOf
  rw [take_more h, List.flatMap_append]
  simp
theorem told_le (nss : List (List Int)) (i : Nat) : (toldOf (nss.take i)).length ≤ (toldOf nss).length := by
  have e : toldOf nss = toldOf (nss.take i) ++ (nss.drop i).flatMap fun ns => (ns.length : Int) :: ns := by
    unfold toldOf
    rw [List.cons_append, ← List.flatMap_append, List.take_append_drop]
  rw [e, List.length_append]
  omega
def spTold (K : PySem.W.Frag) : Sp := fun vs H Q _ => ∃ (a : Addr) (rs : List V) (nss : List (List Int)), vs = [.ref a] ∧ SqL K H a rs ∧ All2 (atO lsO H) rs nss ∧ (toldOf nss).length ≤ 100000 ∧ ∀ H' p, Same H H' → H' p = some (.lst ((toldOf nss).map V.int)) → Q (.ref p) H'
theorem scTold : FnScope ["lists", "answer", "numbers"] ["lists"] (defScope sTold) := ⟨rfl, rfl, rfl, by decide +kernel, rfl, by decide +kernel, by decide +kernel⟩
theorem ok_told {f : Addr} {fd : FuncData} (F : Fun K "told" "told" sTold f fd) (mL : mg "len" = none) : FnOk P w K mg base CX0 1 f fd ["lists"] (spTold K) := by
  refine F.ok scTold (fun vs H Q E h => ?_) (fun cdv A outer s H vs Q E hr h => ?_)
  · obtain ⟨a, rs, nss, rfl, _⟩ := h
    rfl
  · obtain ⟨a, rs, nss, rfl, hS, hA, hlen, q⟩ := h
    refine ⟨_, pss_cons (ps_set (i := 1) scTold.nd rfl (Or.inl rfl) (pe_lst (pa_cons pe_int pa_nil)))
      (pss_cons (ps_for PassesOwn.never rfl (pi_list (pv 0)) (pg_name (i := 2) scTold.nd rfl (Or.inl rfl))
        (pss_cons (ps_expr (pe_bm PySem.F.plainAttrs_list PySem.F.slot_list_append PySem.F.type_list_append mt_append (pv 1) (pa_cons (pe_callB call_len_seq (by rfl) mL PySem.boot_len (pa_cons (pv 2) pa_nil)) pa_nil)))
          (pss_one (ps_expr (pe_bm PySem.F.plainAttrs_list PySem.F.slot_list_extend PySem.F.type_list_extend mt_extend (pv 1) (pa_cons (pv 2) pa_nil))))))
      (pss_one (ps_ret (pv 1)))), ?_⟩
    refine ⟨(by show 1 ≤ sizeLine; decide), fun p np => ?_⟩
    refine ⟨_, rfl, a, rfl, ⟨_, (same_upd np).seq hS⟩, for_list (K := K) (a := a) (xs := rs) (fun i σ H' => ∃ x2, σ = [some (.ref a), some (.ref p), x2] ∧ Same H H' ∧ H' p = some (.lst ((toldOf (nss.take i)).map V.int))) ⟨none, rfl, same_upd np, upd_same⟩ ?_ ?_ ?_⟩
    · rintro i σ H' _ ⟨x2, _, sm, _⟩
      exact sm.seq hS
    · rintro i v σ H' hi ⟨x2, rfl, sm, hp⟩
      obtain ⟨ns, hn, b, rfl, hb⟩ := hA.get hi
      have hbp : b ≠ p := ne_of_none hb np
      have le := told_le nss (i + 1)
      rw [told_more hn, List.length_append, List.length_append] at le
      refine ⟨_, rfl, .inl ⟨rfl, _, SqL.of hp⟩, _, rfl, b, _, rfl, .inl (SqL.of (sm _ _ hb)), p, _, _, rfl, rfl, hp, ?_, ?_⟩
      · rw [List.length_map]
        exact line (by omega)
      · have hb' : (upd H' p (.lst ((toldOf (nss.take i)).map V.int ++ [V.int ((ns.map V.int).length : Int)]))) b = some (lsO ns) := by
          rw [upd_ne hbp]
          exact sm _ _ hb
        refine ⟨_, rfl, .inl ⟨rfl, _, SqL.of upd_same⟩, _, rfl, p, b, _, _, rfl, rfl, upd_same, hb', ?_, ?_⟩
        · rw [List.length_append, List.length_map, List.length_map]
          exact Nat.le_of_lt (line (by show (toldOf (nss.take i)).length + 1 + ns.length ≤ 100000; exact Nat.le_trans le hlen))
        · refine ⟨_, rfl, same_put (same_put sm np) np, ?_⟩
          rw [upd_same, told_more hn, List.map_append, List.map_append, List.length_map]
          rfl
    · rintro σ H' ⟨x2, rfl, sm, hp⟩
      refine ⟨_, rfl, q H' p sm ?_⟩
      rw [hp, hA.len, List.take_length]
end
end Ps
namespace Ps
open PySem PySem.Spec PyProof.Rows L2
section
variable {P : Program} {w : World} {K : PySem.W.Frag} {mg : Str → Option Value} {base : Heap}
theorem scTurns : FnScope ["numbers"] ["numbers"] (defScope sTurns) := ⟨rfl, rfl, rfl, by decide +kernel, rfl, by decide +kernel, by decide +kernel⟩
theorem ok_turns {f fW : Addr} {fd fdW : FuncData} {t1} (F : Fun K "all_turns" "all_turns" sTurns f fd) (FW : Fun K "all_within" "all_within" sWithin fW fdW) (bW : Binds K fdW ["numbers", "least", "most"] []) (gW : mg "all_within" = some (.ref fW)) (mA : mg "all" = none) (gM : mg "TURN_MOST" = some (.int 65536 t1)) :
    FnOk P w K mg base CX0 2 f fd ["numbers"] (spRange K (-65536) 65536) := by
  have GW : FnOk P w K mg base CX0 1 fW fdW ["numbers", "least", "most"] (spWithin K) := ok_within FW mA
  refine F.ok scTurns (fun vs H Q E h => ?_) (fun cdv A outer s H vs Q E hr h => ?_)
  · obtain ⟨a, ns, rfl, _⟩ := h
    rfl
  · obtain ⟨a, ns, rfl, hS, hlen, q⟩ := h
    refine ⟨_, pss_one (ps_ret (pe_call GW hr (by rfl) gW FW.kp bW .nil pass0 (pa_cons (pv 0) (pa_cons (pe_un un_neg (pe_gi (by rfl) gM)) (pa_cons (pe_gi (by rfl) gM) pa_nil))))), ?_⟩
    exact ⟨_, rfl, _, rfl, a, ns, -65536, 65536, rfl, hS, hlen, q⟩
/-! middle -/
def spMiddle : Sp := fun vs H Q _ => ∃ i : Int, vs = [.int i] ∧ Q (.int (64 * i + 32)) H
theorem scMiddle : FnScope ["index"] ["index"] (defScope sMiddle) := ⟨rfl, rfl, rfl, by decide +kernel, rfl, by decide +kernel, by decide +kernel⟩
theorem ok_middle {f : Addr} {fd : FuncData} {t1 t2} (F : Fun K "middle" "middle" sMiddle f fd) (gS : mg "STEPS" = some (.int 64 t1)) (gH : mg "HALF_STEPS" = some (.int 32 t2)) : FnOk P w K mg base CX0 1 f fd ["index"] spMiddle := by
  refine F.ok scMiddle (fun vs H Q E h => ?_) (fun cdv A outer s H vs Q E hr h => ?_)
  · obtain ⟨i, rfl, _⟩ := h
    rfl
  · obtain ⟨i, rfl, q⟩ := h
    refine ⟨_, pss_one (ps_ret (pe_op op_add (pe_op op_mul (pe_gi (by rfl) gS) (pv 0)) (pe_gi (by rfl) gH))), ?_⟩
    exact ⟨_, rfl, _, _, rfl, rfl, .inl ⟨by decide, by decide⟩, _, _, rfl, rfl, q⟩
/-! four_places -/
def trip (p : Int × Int × Int) : List V := [.int p.1, .int p.2.1, .int p.2.2]
def pr (p : Int × Int) : List V := [.int p.1, .int p.2]
def spFour : Sp := fun vs H Q _ => ∃ x y : Int, vs = [.int x, .int y] ∧ ∀ H' p us, Same H H' → H' p = some (.lst us) → RowsAt trip H' us (fourP x y) → Q (.ref p) H'
theorem scFour : FnScope ["x", "y", "i", "j", "p", "q"] ["x", "y"] (defScope sFour) := ⟨rfl, rfl, rfl, by decide +kernel, rfl, by decide +kernel, by decide +kernel⟩
theorem ok_four {f : Addr} {fd : FuncData} {t1 t2} (F : Fun K "four_places" "four_places" sFour f fd) (gS : mg "STEPS" = some (.int 64 t1)) (gH : mg "HALF_STEPS" = some (.int 32 t2)) : FnOk P w K mg base CX0 1 f fd ["x", "y"] spFour := by
  refine F.ok scFour (fun vs H Q E h => ?_) (fun cdv A outer s H vs Q E hr h => ?_)
  · obtain ⟨x, y, rfl, _⟩ := h
    rfl
  · obtain ⟨x, y, rfl, q⟩ := h
    refine ⟨_, pss_cons (ps_set (i := 2) scFour.nd rfl (Or.inl rfl) (pe_op op_fdiv (pe_op op_sub (pv 0) (pe_gi (by rfl) gH)) (pe_gi (by rfl) gS)))
      (pss_cons (ps_set (i := 3) scFour.nd rfl (Or.inl rfl) (pe_op op_fdiv (pe_op op_sub (pv 1) (pe_gi (by rfl) gH)) (pe_gi (by rfl) gS)))
      (pss_cons (ps_set (i := 4) scFour.nd rfl (Or.inl rfl) (pe_op op_mod (pe_op op_sub (pv 0) (pe_gi (by rfl) gH)) (pe_gi (by rfl) gS)))
      (pss_cons (ps_set (i := 5) scFour.nd rfl (Or.inl rfl) (pe_op op_mod (pe_op op_sub (pv 1) (pe_gi (by rfl) gH)) (pe_gi (by rfl) gS)))
      (pss_one (ps_ret (pe_lst (pa_cons (pe_tup (pa_cons (pv 2) (pa_cons (pv 3) (pa_cons (pe_op op_mul (pe_op op_sub (pe_gi (by rfl) gS) (pv 4)) (pe_op op_sub (pe_gi (by rfl) gS) (pv 5))) pa_nil))))
        (pa_cons (pe_tup (pa_cons (pe_op op_add (pv 2) pe_int) (pa_cons (pv 3) (pa_cons (pe_op op_mul (pv 4) (pe_op op_sub (pe_gi (by rfl) gS) (pv 5))) pa_nil))))
        (pa_cons (pe_tup (pa_cons (pv 2) (pa_cons (pe_op op_add (pv 3) pe_int) (pa_cons (pe_op op_mul (pe_op op_sub (pe_gi (by rfl) gS) (pv 4)) (pv 5)) pa_nil))))
        (pa_cons (pe_tup (pa_cons (pe_op op_add (pv 2) pe_int) (pa_cons (pe_op op_add (pv 3) pe_int) (pa_cons (pe_op op_mul (pv 4) (pv 5)) pa_nil)))) pa_nil)))))))))), ?_⟩
    have h1 : 0 ≤ (x - 32) % 64 := by omega
    have h2 : (x - 32) % 64 ≤ 63 := by omega
    have h3 : 0 ≤ (y - 32) % 64 := by omega
    have h4 : (y - 32) % 64 ≤ 63 := by omega
    refine ⟨_, rfl, _, _, rfl, rfl, _, _, rfl, rfl, ⟨by decide, by decide⟩, ?_⟩
    refine ⟨_, rfl, _, _, rfl, rfl, _, _, rfl, rfl, ⟨by decide, by decide⟩, ?_⟩
    refine ⟨_, rfl, _, _, rfl, rfl, _, _, rfl, rfl, (by show (0 : Int) < 64; decide), ?_⟩
    refine ⟨_, rfl, _, _, rfl, rfl, _, _, rfl, rfl, (by show (0 : Int) < 64; decide), ?_⟩
    -- the four tuples
    refine ⟨_, rfl, _, rfl, _, rfl, _, _, rfl, rfl, _, rfl, _, _, rfl, rfl, _, _, rfl, rfl, .inl ⟨by omega, by omega⟩, (by show 3 ≤ sizeLine; decide), fun p1 n1 => ?_⟩
    refine ⟨_, rfl, _, _, rfl, rfl, _, rfl, _, rfl, _, rfl, _, _, rfl, rfl, _, _, rfl, rfl, .inl ⟨by omega, by omega⟩, (by show 3 ≤ sizeLine; decide), fun p2 n2 => ?_⟩
    refine ⟨_, rfl, _, rfl, _, _, rfl, rfl, _, rfl, _, _, rfl, rfl, _, rfl, _, _, rfl, rfl, .inl ⟨by omega, by omega⟩, (by show 3 ≤ sizeLine; decide), fun p3 n3 => ?_⟩
    refine ⟨_, rfl, _, _, rfl, rfl, _, rfl, _, _, rfl, rfl, _, rfl, _, rfl, _, _, rfl, rfl, .inl ⟨by omega, by omega⟩, (by show 3 ≤ sizeLine; decide), fun p4 n4 => ?_⟩
    refine ⟨(by show 4 ≤ sizeLine; decide), fun p5 n5 => ?_⟩
    have s1 := same_upd (o := .tup (trip ((x - 32) / 64, (y - 32) / 64, partA x y))) n1
    have s2 := same_upd (o := .tup (trip ((x - 32) / 64 + 1, (y - 32) / 64, partB x y))) n2
    have s3 := same_upd (o := .tup (trip ((x - 32) / 64, (y - 32) / 64 + 1, partC x y))) n3
    have s4 := same_upd (o := .tup (trip ((x - 32) / 64 + 1, (y - 32) / 64 + 1, partD x y))) n4
    have s5 := same_upd (o := .lst [.ref p1, .ref p2, .ref p3, .ref p4]) n5
    refine q _ p5 [.ref p1, .ref p2, .ref p3, .ref p4] (s1.trans (s2.trans (s3.trans (s4.trans s5)))) upd_same ?_
    exact ⟨⟨p1, rfl, s5 _ _ (s4 _ _ (s3 _ _ (s2 _ _ upd_same)))⟩, ⟨p2, rfl, s5 _ _ (s4 _ _ (s3 _ _ upd_same))⟩, ⟨p3, rfl, s5 _ _ (s4 _ _ upd_same)⟩, ⟨p4, rfl, s5 _ _ upd_same⟩, trivial⟩
/-! between_four -/
theorem bsum_bd (w h : Int) (fs bs : List Int) : ∀ (l : List (Int × Int × Int)) (s : Int × Int), (∀ p ∈ l, 0 ≤ p.2.2 ∧ p.2.2 ≤ 4096) → s.2 ≤ (l.foldl (bstep w h fs bs) s).2 ∧ (l.foldl (bstep w h fs bs) s).2 ≤ s.2 + 4096 * (l.length : Int)
  | [], s, _ => by
    show s.2 ≤ s.2 ∧ s.2 ≤ s.2 + 4096 * ((0 : Nat) : Int)
    omega
  | p :: l, s, k => by
    have ih := bsum_bd w h fs bs l (bstep w h fs bs s p) fun q hq => k q (List.mem_cons_of_mem _ hq)
    have kp := k p (List.mem_cons_self ..)
    rw [List.foldl_cons, List.length_cons]
    have e : (bstep w h fs bs s p).2 = s.2 + covOf w h bs p := by
      rw [bstep_is]
    have c : 0 ≤ covOf w h bs p ∧ covOf w h bs p ≤ 4096 := by
      unfold covOf
      split <;> omega
    omega
theorem bsum_more {w h : Int} {fs bs : List Int} {l : List (Int × Int × Int)} {i : Nat} {p : Int × Int × Int} (e : l[i]? = some p) : bsum w h fs bs (l.take (i + 1)) = bstep w h fs bs (bsum w h fs bs (l.take i)) p := by
  unfold bsum
  rw [take_more e, List.foldl_append]
  rfl
def spBetween (K : PySem.W.Frag) : Sp := fun vs H Q _ => ∃ (x y w h : Int) (fa ba : Addr) (fs bs : List Int), vs = [.int x, .int y, .int w, .int h, .ref fa, .ref ba] ∧ SqL K H fa (fs.map V.int) ∧ SqL K H ba (bs.map V.int) ∧ (1 ≤ w ∧ w ≤ 64) ∧ (1 ≤ h ∧ h ≤ 64) ∧ fs.length = w.toNat * h.toNat ∧ bs.length = w.toNat * h.toNat ∧
  ∀ H' p, Same H H' → H' p = some (.tup (pr (btw w h fs bs x y))) → Q (.ref p) H'
abbrev nBetween : List Str := ["x", "y", "w", "h", "f", "bad", "total", "cover", "column", "row", "part"]
theorem scBetween : FnScope nBetween ["x", "y", "w", "h", "f", "bad"] (defScope sBetween) := ⟨rfl, rfl, rfl, by decide +kernel, rfl, by decide +kernel, by decide +kernel⟩
theorem ok_between {f fF fI fR : Addr} {fd fdF fdI fdR : FuncData} (F : Fun K "between_four" "between_four" sBetween f fd)
    (GF : FnOk P w K mg base CX0 1 fF fdF ["x", "y"] spFour) (gF : mg "four_places" = some (.ref fF)) (kF : PySem.W.keepIn K (.ref fF) = true) (bF : Binds K fdF ["x", "y"] [])
    (GI : FnOk P w K mg base CX0 1 fI fdI ["column", "row", "w", "h"] spInPic) (gI : mg "in_picture" = some (.ref fI)) (kI : PySem.W.keepIn K (.ref fI) = true) (bI : Binds K fdI ["column", "row", "w", "h"] [])
    (GR : FnOk P w K mg base CX0 1 fR fdR ["dividend", "divisor"] spRnd) (gR : mg "rounded" = some (.ref fR)) (kR : PySem.W.keepIn K (.ref fR) = true) (bR : Binds K fdR ["dividend", "divisor"] []) : FnOk P w K mg base CX0 2 f fd ["x", "y", "w", "h", "f", "bad"] (spBetween K) := by
  refine F.ok scBetween (fun vs H Q E h => ?_) (fun cdv A outer s H vs Q E hr h => ?_)
  · obtain ⟨x, y, w, h, fa, ba, fs, bs, rfl, _⟩ := h
    rfl
  · obtain ⟨x, y, w, h, fa, ba, fs, bs, rfl, hF, hB, bw, bh, lf, lb, q⟩ := h
    refine ⟨_, pss_cons (ps_set (i := 6) scBetween.nd rfl (Or.inl rfl) pe_int)
      (pss_cons (ps_set (i := 7) scBetween.nd rfl (Or.inl rfl) pe_int)
      (pss_cons (ps_for PassesOwn.never rfl (pi_list (pe_call GF hr (by rfl) gF kF bF .nil pass0 (pa_cons (pv 0) (pa_cons (pv 1) pa_nil))))
          (pg_tup rfl (pgs_cons (pg_name (i := 8) scBetween.nd rfl (.inl rfl)) (pgs_cons (pg_name (i := 9) scBetween.nd rfl (.inl rfl)) (pgs_cons (pg_name (i := 10) scBetween.nd rfl (.inl rfl)) pgs_nil))))
        (pss_one (ps_if (pw_and (pt_val (pe_call GI hr (by rfl) gI kI bI .nil pass0 (pa_cons (pv 8) (pa_cons (pv 9) (pa_cons (pv 2) (pa_cons (pv 3) pa_nil))))))
            (pw_and1 (pt_cmpR op_eq (pe_ix ix_list (pv 5) (pe_op op_add (pe_op op_mul (pv 9) (pv 2)) (pv 8)) (fun _ _ => rfl)) pe_int (nomark _)))).pt
          (pss_cons (ps_aug (i := 6) scBetween.nd rfl (.inl rfl) (pe_op op_mul (pe_ix ix_list (pv 4) (pe_op op_add (pe_op op_mul (pv 9) (pv 2)) (pv 8)) (fun _ _ => rfl)) (pv 10)) ip_add)
            (pss_one (ps_aug (i := 7) scBetween.nd rfl (.inl rfl) (pv 10) ip_add))) pss_nil)))
      (pss_one (ps_ret (pe_tup (pa_cons (pe_call GR hr (by rfl) gR kR bR .nil pass0 (pa_cons (pv 6) (pa_cons (pv 7) pa_nil))) (pa_cons (pv 7) pa_nil))))))), ?_⟩
    refine ⟨_, rfl, _, rfl, x, y, rfl, fun H1 L us s1 hL hR => ?_⟩
    have bd := fourP_bd (x := x) (y := y)
    have e5 : ((w.toNat * h.toNat : Nat) : Int) = w * h := by
      rw [Int.natCast_mul, Int.toNat_of_nonneg (by omega), Int.toNat_of_nonneg (by omega)]
    refine ⟨L, rfl, ⟨_, SqL.of hL⟩, for_list (K := K) (a := L) (xs := us) (fun i σ H' => ∃ x8 x9 x10, σ = [some (.int x), some (.int y), some (.int w), some (.int h), some (.ref fa), some (.ref ba), some (.int (bsum w h fs bs ((fourP x y).take i)).1), some (.int (bsum w h fs bs ((fourP x y).take i)).2), x8, x9, x10] ∧ H' = H1) ⟨none, none, none, rfl, rfl⟩ ?_ ?_ ?_⟩
    · rintro i σ H' _ ⟨x8, x9, x10, _, rfl⟩
      exact SqL.of hL
    · rintro i v σ H' hi ⟨x8, x9, x10, rfl, rfl⟩
      obtain ⟨p, T, hp, rfl, hT⟩ := hR.get hi
      obtain ⟨c, r, part⟩ := p
      have bp : 0 ≤ part ∧ part ≤ 4096 := bd _ (List.mem_of_getElem? hp)
      have step := bsum_more (w := w) (h := h) (fs := fs) (bs := bs) hp
      refine ⟨T, trip (c, r, part), rfl, SqT.of hT, rfl, .int c, [.int r, .int part], rfl, .int r, [.int part], rfl, .int part, [], rfl, rfl, ?_⟩
      refine ⟨_, rfl, _, rfl, _, rfl, _, rfl, c, r, w, h, rfl, _, rfl, ite2 (fun e => ?_) (fun e => ?_)⟩
      · have k' := inPic_iff.mp e
        have pl := place_lt k'.1 k'.2.1 k'.2.2.1 k'.2.2.2
        have atF : atI (fs.map V.int) (r * w + c) = some (V.int (fs.getD (r * w + c).toNat 0)) := by
          refine at_of (j := (r * w + c).toNat) (Int.toNat_of_nonneg pl.1).symm ?_
          rw [List.getElem?_map, list_at (by omega)]
          rfl
        have atB : atI (bs.map V.int) (r * w + c) = some (V.int (bs.getD (r * w + c).toNat 0)) := by
          refine at_of (j := (r * w + c).toNat) (Int.toNat_of_nonneg pl.1).symm ?_
          rw [List.getElem?_map, list_at (by omega)]
          rfl
        refine ⟨_, rfl, _, rfl, _, rfl, _, _, rfl, rfl, .inr ⟨by omega, by omega⟩, _, rfl, _, _, rfl, rfl, ba, bs.map V.int, _, _, rfl, rfl, s1.seq hB, atB, rfl, _, rfl, ite2 (fun e2 => ?_) (fun e2 => ?_)⟩
        · have e3 : bs.getD (r * w + c).toNat 0 = 0 := V.int.inj (of_decide_eq_true e2)
          have e4 : okAt w h bs c r = true := by
            unfold okAt
            rw [e, e3]
            rfl
          refine ⟨_, rfl, _, rfl, _, rfl, _, rfl, _, _, rfl, rfl, .inr ⟨by omega, by omega⟩, _, rfl, _, _, rfl, rfl, fa, fs.map V.int, _, _, rfl, rfl, s1.seq hF, atF, _, rfl, _, _, rfl, rfl, .inr ⟨by omega, by omega⟩, _, _, rfl, rfl, ?_⟩
          refine ⟨_, rfl, _, rfl, _, _, rfl, rfl, some (.int c), some (.int r), some (.int part), ?_, rfl⟩
          rw [step]
          unfold bstep
          rw [if_pos e4]
          rfl
        · have e4 : ¬ okAt w h bs c r = true := fun z => by
            unfold okAt at z
            rw [e, Bool.true_and] at z
            have z' := of_decide_eq_true z
            rw [z'] at e2
            exact e2 (decide_eq_true rfl)
          refine ⟨some (.int c), some (.int r), some (.int part), ?_, rfl⟩
          rw [step]
          unfold bstep
          rw [if_neg e4]
          rfl
      · have e4 : ¬ okAt w h bs c r = true := fun z => by
          unfold okAt at z
          rw [Bool.not_eq_true _ |>.mp e, Bool.false_and] at z
          cases z
        refine ⟨some (.int c), some (.int r), some (.int part), ?_, rfl⟩
        rw [step]
        unfold bstep
        rw [if_neg e4]
        rfl
    · rintro σ H' ⟨x8, x9, x10, rfl, rfl⟩
      have e6 : (fourP x y).take us.length = fourP x y := by
        rw [hR.len]
        exact List.take_length
      rw [e6]
      have b2 := bsum_bd w h fs bs (fourP x y) (0, 0) bd
      have b3 : 0 ≤ (bsum w h fs bs (fourP x y)).2 := b2.1
      have b4 : (bsum w h fs bs (fourP x y)).2 ≤ 0 + 4096 * ((4 : Nat) : Int) := b2.2
      refine ⟨_, rfl, _, rfl, (bsum w h fs bs (fourP x y)).1, (bsum w h fs bs (fourP x y)).2, rfl, by omega, by omega, ?_⟩
      refine ⟨_, rfl, (by show 2 ≤ sizeLine; decide), fun p np => q _ p (s1.trans (same_upd np)) ?_⟩
      rw [upd_same]
      unfold btw rnd
      by_cases e7 : (bsum w h fs bs (fourP x y)).2 = 0
      · rw [if_pos e7, if_pos e7, e7]
        rfl
      · rw [if_neg e7, if_neg e7]
        rfl
/-! placed -/
def spPlaced (K : PySem.W.Frag) : Sp := fun vs H Q _ => ∃ (ta ma fa ba : Addr) (A B C D u v w h : Int) (fs bs : List Int), vs = [.ref ta, .ref ma, .int u, .int v, .int w, .int h, .ref fa, .ref ba] ∧ SqL K H ta [.int A, .int B] ∧ SqL K H ma [.int C, .int D] ∧ SqL K H fa (fs.map V.int) ∧ SqL K H ba (bs.map V.int) ∧
  (1 ≤ u ∧ u ≤ 64) ∧ (1 ≤ v ∧ v ≤ 64) ∧ (1 ≤ w ∧ w ≤ 64) ∧ (1 ≤ h ∧ h ≤ 64) ∧ fs.length = w.toNat * h.toNat ∧ bs.length = w.toNat * h.toNat ∧
  ∀ H' p us, Same H H' → H' p = some (.lst us) → RowsAt pr H' us (rows (placeG A B C D w h fs bs) u.toNat v.toNat) → Q (.ref p) H'
abbrev nPlaced : List Str := ["turns", "moves", "u1", "v1", "w", "h", "f", "bad", "found", "row", "y", "column", "x", "old_x", "old_y"]
theorem scPlaced : FnScope nPlaced ["turns", "moves", "u1", "v1", "w", "h", "f", "bad"] (defScope sPlaced) := ⟨rfl, rfl, rfl, by decide +kernel, rfl, by decide +kernel, by decide +kernel⟩
theorem ok_placed {f fM fB : Addr} {fd fdM fdB : FuncData} {t1} (F : Fun K "placed" "placed" sPlaced f fd)
    (GM : FnOk P w K mg base CX0 1 fM fdM ["index"] spMiddle) (gM : mg "middle" = some (.ref fM)) (kM : PySem.W.keepIn K (.ref fM) = true) (bM : Binds K fdM ["index"] [])
    (GB : FnOk P w K mg base CX0 2 fB fdB ["x", "y", "w", "h", "f", "bad"] (spBetween K)) (gB : mg "between_four" = some (.ref fB)) (kB : PySem.W.keepIn K (.ref fB) = true) (bB : Binds K fdB ["x", "y", "w", "h", "f", "bad"] [])
    (gU : mg "TURN_UNIT" = some (.int 16384 t1)) (mR : mg "range" = none) : FnOk P w K mg base CX0 3 f fd ["turns", "moves", "u1", "v1", "w", "h", "f", "bad"] (spPlaced K) := by
  refine F.ok scPlaced (fun vs H Q E h => ?_) (fun cdv A outer s H vs Q E hr h => ?_)
  · obtain ⟨ta, ma, fa, ba, A, B, C, D, u, v, w, h, fs, bs, rfl, _⟩ := h
    rfl
  · obtain ⟨ta, ma, fa, ba, A, B, C, D, u, v, w, h, fs, bs, rfl, hT, hM, hF, hB, bu, bv, bw, bh, lf, lb, q⟩ := h
    have hr1 : Room 1 _ := hr.mono (by decide)
    refine ⟨_, pss_cons (ps_set (i := 8) scPlaced.nd rfl (Or.inl rfl) (pe_lst pa_nil))
      (pss_cons (ps_for PassesOwn.never rfl (pi_range1 rfl mR (pa_cons (pv 3) pa_nil)) (pg_name (i := 9) scPlaced.nd rfl (Or.inl rfl))
        (pss_cons (ps_set (i := 10) scPlaced.nd rfl (Or.inl rfl) (pe_call GM hr1 (by rfl) gM kM bM .nil pass0 (pa_cons (pv 9) pa_nil)))
        (pss_one (ps_for PassesOwn.never rfl (pi_range1 rfl mR (pa_cons (pv 2) pa_nil)) (pg_name (i := 11) scPlaced.nd rfl (Or.inl rfl))
          (pss_cons (ps_set (i := 12) scPlaced.nd rfl (Or.inl rfl) (pe_call GM hr1 (by rfl) gM kM bM .nil pass0 (pa_cons (pv 11) pa_nil)))
          (pss_cons (ps_set (i := 13) scPlaced.nd rfl (Or.inl rfl) (pe_op op_add (pe_op op_fdiv (pe_op op_sub (pe_op op_mul (pe_ix ix_list (pv 0) pe_int (fun _ _ => rfl)) (pv 12)) (pe_op op_mul (pe_ix ix_list (pv 0) pe_int (fun _ _ => rfl)) (pv 10))) (pe_gi (by rfl) gU)) (pe_ix ix_list (pv 1) pe_int (fun _ _ => rfl))))
          (pss_cons (ps_set (i := 14) scPlaced.nd rfl (Or.inl rfl) (pe_op op_add (pe_op op_fdiv (pe_op op_add (pe_op op_mul (pe_ix ix_list (pv 0) pe_int (fun _ _ => rfl)) (pv 12)) (pe_op op_mul (pe_ix ix_list (pv 0) pe_int (fun _ _ => rfl)) (pv 10))) (pe_gi (by rfl) gU)) (pe_ix ix_list (pv 1) pe_int (fun _ _ => rfl))))
          (pss_one (ps_expr (pe_bm PySem.F.plainAttrs_list PySem.F.slot_list_append PySem.F.type_list_append mt_append (pv 8)
            (pa_cons (pe_call GB hr (by rfl) gB kB bB .nil pass0 (pa_cons (pv 13) (pa_cons (pv 14) (pa_cons (pv 4) (pa_cons (pv 5) (pa_cons (pv 6) (pa_cons (pv 7) pa_nil))))))) pa_nil)))))))))))
      (pss_one (ps_ret (pv 8)))), ?_⟩
    refine ⟨Nat.zero_le _, fun p np => ?_⟩
    have hu64 : u.toNat ≤ 64 := by omega
    have hv64 : v.toNat ≤ 64 := by omega
    refine ⟨_, rfl, v, rfl, by omega, by omega, for_range (lo := 0) (n := v.toNat) (fun i σ H' => ∃ x9 x10 x11 x12 x13 x14 us, σ = [some (.ref ta), some (.ref ma), some (.int u), some (.int v), some (.int w), some (.int h), some (.ref fa), some (.ref ba), some (.ref p), x9, x10, x11, x12, x13, x14] ∧ Same H H' ∧ H' p = some (.lst us) ∧ RowsAt pr H' us (rows (placeG A B C D w h fs bs) u.toNat i)) ⟨none, none, none, none, none, none, [], rfl, same_upd np, upd_same, trivial⟩ ?_ ?_⟩
    · rintro i σ H' hi ⟨x9, x10, x11, x12, x13, x14, us, rfl, sm, hp, hR⟩
      refine ⟨_, rfl, 0 + (i : Int), rfl, ?_⟩
      refine ⟨_, rfl, u, rfl, by omega, by omega, for_range (lo := 0) (n := u.toNat) (fun j σ H' => ∃ x11 x12 x13 x14 us, σ = [some (.ref ta), some (.ref ma), some (.int u), some (.int v), some (.int w), some (.int h), some (.ref fa), some (.ref ba), some (.ref p), some (.int (0 + (i : Int))), some (.int (64 * (0 + (i : Int)) + 32)), x11, x12, x13, x14] ∧ Same H H' ∧ H' p = some (.lst us) ∧ RowsAt pr H' us (rows (placeG A B C D w h fs bs) u.toNat i ++ (List.range j).map fun c => placeG A B C D w h fs bs c i)) ⟨x11, x12, x13, x14, us, rfl, sm, hp, ?_⟩ ?_ ?_⟩
      · simpa using hR
      · rintro j σ H' hj ⟨x11, x12, x13, x14, us, rfl, sm, hp, hR⟩
        have hm : i * u.toNat ≤ 64 * 64 := Nat.mul_le_mul (by omega) hu64
        have room : us.length < sizeLine := by
          rw [hR.len, List.length_append, rows_length, List.length_map, List.length_range]
          exact line (by omega)
        have a0 : atI [V.int A, V.int B] 0 = some (V.int A) := atI_nat (j := 0) rfl
        have a1 : atI [V.int A, V.int B] 1 = some (V.int B) := atI_nat (j := 1) rfl
        have m0 : atI [V.int C, V.int D] 0 = some (V.int C) := atI_nat (j := 0) rfl
        have m1 : atI [V.int C, V.int D] 1 = some (V.int D) := atI_nat (j := 1) rfl
        have tT := sm.seq hT
        have tM := sm.seq hM
        refine ⟨_, rfl, 0 + (j : Int), rfl, ?_⟩
        refine ⟨_, rfl, ta, _, _, _, rfl, rfl, tT, a0, _, rfl, _, _, rfl, rfl, .inr ⟨by omega, by omega⟩, _, rfl, ta, _, _, _, rfl, rfl, tT, a1, _, rfl, _, _, rfl, rfl, .inr ⟨by omega, by omega⟩, _, _, rfl, rfl, _, _, rfl, rfl, ⟨by decide, by decide⟩, _, rfl, ma, _, _, _, rfl, rfl, tM, m0, _, _, rfl, rfl, ?_⟩
        refine ⟨_, rfl, ta, _, _, _, rfl, rfl, tT, a1, _, rfl, _, _, rfl, rfl, .inr ⟨by omega, by omega⟩, _, rfl, ta, _, _, _, rfl, rfl, tT, a0, _, rfl, _, _, rfl, rfl, .inr ⟨by omega, by omega⟩, _, _, rfl, rfl, _, _, rfl, rfl, ⟨by decide, by decide⟩, _, rfl, ma, _, _, _, rfl, rfl, tM, m1, _, _, rfl, rfl, ?_⟩
        refine ⟨_, rfl, .inl ⟨rfl, _, SqL.of hp⟩, _, rfl, _, rfl, _, rfl, _, rfl, _, rfl, _, rfl, oldX A B C j i, oldY A B D j i, w, h, fa, ba, fs, bs, ?_, sm.seq hF, sm.seq hB, bw, bh, lf, lb, fun H2 T s2 hT2 => ?_⟩
        · unfold oldX oldY
          rw [Int.zero_add, Int.zero_add]
          rfl
        · refine ⟨p, us, .ref T, rfl, rfl, s2 _ _ hp, room, _, _, _, _, us ++ [.ref T], rfl, same_put (sm.trans s2) np, upd_same, ?_⟩
          rw [row_succ, ← List.append_assoc]
          exact ((hR.mono (Same.tup s2)).snoc hT2).mono (tup_put (s2 _ _ hp))
      · rintro σ H' ⟨x11, x12, x13, x14, us, rfl, sm, hp, hR⟩
        refine ⟨_, _, _, _, _, _, us, rfl, sm, hp, ?_⟩
        rw [rows_succ]
        exact hR
    · rintro σ H' ⟨x9, x10, x11, x12, x13, x14, us, rfl, sm, hp, hR⟩
      exact ⟨_, rfl, q H' p us sm hp hR⟩
/-! sm_place -/
def spPlace (K : PySem.W.Frag) : Sp := fun vs H Q _ => ∃ (a b c d u v w h : Int) (fa ba : Addr) (fs bs : List Int), vs = [.int a, .int b, .int c, .int d, .int u, .int v, .int w, .int h, .ref fa, .ref ba] ∧ SqL K H fa (fs.map V.int) ∧ SqL K H ba (bs.map V.int) ∧
  (placeOk a b c d u v w h = true → fs.length = w.toNat * h.toNat ∧ bs.length = w.toNat * h.toNat) ∧ ∀ H' p, H' p = some (.lst ((placeAns a b c d u v w h fs bs).map V.int)) → Q (.ref p) H'
abbrev nPlace : List Str := ["a", "b", "c", "d", "u1", "v1", "w", "h", "f", "bad", "turns", "moves", "found", "number", "cover"]
theorem scPlace : FnScope nPlace ["a", "b", "c", "d", "u1", "v1", "w", "h", "f", "bad"] (defScope sPlace) := ⟨rfl, rfl, rfl, by decide +kernel, rfl, by decide +kernel, by decide +kernel⟩
theorem ok_place {f fS fT fM fD fP fL : Addr} {fd fdS fdT fdM fdD fdP fdL : FuncData} {t1} (F : Fun K "sm_place" "sm_place" sPlace f fd)
    (GS : FnOk P w K mg base CX0 1 fS fdS ["word"] spSigned) (gS : mg "signed" = some (.ref fS)) (kS : PySem.W.keepIn K (.ref fS) = true) (bS : Binds K fdS ["word"] [])
    (GT : FnOk P w K mg base CX0 2 fT fdT ["numbers"] (spRange K (-65536) 65536)) (gT : mg "all_turns" = some (.ref fT)) (kT : PySem.W.keepIn K (.ref fT) = true) (bT : Binds K fdT ["numbers"] [])
    (GM : FnOk P w K mg base CX0 2 fM fdM ["numbers"] (spRange K (-8192) 8192)) (gM : mg "all_moves" = some (.ref fM)) (kM : PySem.W.keepIn K (.ref fM) = true) (bM : Binds K fdM ["numbers"] [])
    (GD : FnOk P w K mg base CX0 2 fD fdD ["numbers"] (spRange K 1 64)) (gD : mg "all_sides" = some (.ref fD)) (kD : PySem.W.keepIn K (.ref fD) = true) (bD : Binds K fdD ["numbers"] [])
    (GP : FnOk P w K mg base CX0 3 fP fdP ["turns", "moves", "u1", "v1", "w", "h", "f", "bad"] (spPlaced K)) (gP : mg "placed" = some (.ref fP)) (kP : PySem.W.keepIn K (.ref fP) = true) (bP : Binds K fdP ["turns", "moves", "u1", "v1", "w", "h", "f", "bad"] [])
    (GL : FnOk P w K mg base CX0 1 fL fdL ["lists"] (spTold K)) (gL : mg "told" = some (.ref fL)) (kL : PySem.W.keepIn K (.ref fL) = true) (bL : Binds K fdL ["lists"] [])
    (gR : mg "REFUSED" = some (.int (-2) t1)) : FnOk P w K mg base CX0 4 f fd ["a", "b", "c", "d", "u1", "v1", "w", "h", "f", "bad"] (spPlace K) := by
  refine F.ok scPlace (fun vs H Q E h => ?_) (fun cdv A outer s H vs Q E hr h => ?_)
  · obtain ⟨a, b, c, d, u, v, w, h, fa, ba, fs, bs, rfl, _⟩ := h
    rfl
  · obtain ⟨a, b, c, d, u, v, w, h, fa, ba, fs, bs, rfl, hF, hB, hlen, q⟩ := h
    have hr1 : Room 1 _ := hr.mono (by decide)
    have hr2 : Room 2 _ := hr.mono (by decide)
    refine ⟨_, pss_cons (ps_set (i := 10) scPlace.nd rfl (Or.inl rfl) (pe_lst (pa_cons (pe_call GS hr1 (by rfl) gS kS bS .nil pass0 (pa_cons (pv 0) pa_nil)) (pa_cons (pe_call GS hr1 (by rfl) gS kS bS .nil pass0 (pa_cons (pv 1) pa_nil)) pa_nil))))
      (pss_cons (ps_set (i := 11) scPlace.nd rfl (Or.inl rfl) (pe_lst (pa_cons (pe_call GS hr1 (by rfl) gS kS bS .nil pass0 (pa_cons (pv 2) pa_nil)) (pa_cons (pe_call GS hr1 (by rfl) gS kS bS .nil pass0 (pa_cons (pv 3) pa_nil)) pa_nil))))
      (pss_cons (ps_if (pt_not (pw_and (pt_val (pe_call GT hr2 (by rfl) gT kT bT .nil pass0 (pa_cons (pv 10) pa_nil)))
          (pw_and (pt_val (pe_call GM hr2 (by rfl) gM kM bM .nil pass0 (pa_cons (pv 11) pa_nil)))
          (pw_and1 (pt_val (pe_call GD hr2 (by rfl) gD kD bD .nil pass0 (pa_cons (pe_lst (pa_cons (pv 4) (pa_cons (pv 5) (pa_cons (pv 6) (pa_cons (pv 7) pa_nil))))) pa_nil)))))).pt)
        (pss_one (ps_ret (pe_lst (pa_cons (pe_gi (by rfl) gR) pa_nil)))) pss_nil)
      (pss_cons (ps_set (i := 12) scPlace.nd rfl (Or.inl rfl) (pe_call GP hr (by rfl) gP kP bP .nil pass0 (pa_cons (pv 10) (pa_cons (pv 11) (pa_cons (pv 4) (pa_cons (pv 5) (pa_cons (pv 6) (pa_cons (pv 7) (pa_cons (pv 8) (pa_cons (pv 9) pa_nil))))))))))
      (pss_one (ps_ret (pe_call GL hr1 (by rfl) gL kL bL .nil pass0 (pa_cons (pe_lst (pa_cons (pe_lc (own := [("number", 13), ("cover", 14)]) (g := gTup K 2 (gCons (gName 13) (gCons (gName 14) gNil))) (tt := tYes) (te := tVar 13) rfl scPlace.nd (pi_list (pv 12)) (blkOk_by (N := nPlace) (sc := defScope sPlace) (by decide +kernel))
          (fun _ _ _ _ _ => pg_tup rfl (pgs_cons (pg_name (i := 13) scPlace.nd rfl (Or.inl rfl)) (pgs_cons (pg_name (i := 14) scPlace.nd rfl (Or.inl rfl)) pgs_nil))) (fun _ _ _ _ _ => pts_nil) (fun _ _ _ _ _ => pv 13))
        (pa_cons (pe_lc (own := [("number", 13), ("cover", 14)]) (g := gTup K 2 (gCons (gName 13) (gCons (gName 14) gNil))) (tt := tYes) (te := tVar 14) rfl scPlace.nd (pi_list (pv 12)) (blkOk_by (N := nPlace) (sc := defScope sPlace) (by decide +kernel))
          (fun _ _ _ _ _ => pg_tup rfl (pgs_cons (pg_name (i := 13) scPlace.nd rfl (Or.inl rfl)) (pgs_cons (pg_name (i := 14) scPlace.nd rfl (Or.inl rfl)) pgs_nil))) (fun _ _ _ _ _ => pts_nil) (fun _ _ _ _ _ => pv 14)) pa_nil))) pa_nil))))))), ?_⟩
    -- turns, moves
    refine ⟨_, rfl, a, rfl, _, rfl, b, rfl, (by show 2 ≤ sizeLine; decide), fun pT nT => ?_⟩
    refine ⟨_, rfl, c, rfl, _, rfl, d, rfl, (by show 2 ≤ sizeLine; decide), fun pM nM => ?_⟩
    have s1 : Same H (upd H pT (.lst [.int (sg a), .int (sg b)])) := same_upd nT
    have s2 : Same (upd H pT (.lst [.int (sg a), .int (sg b)])) (upd (upd H pT (.lst [.int (sg a), .int (sg b)])) pM (.lst [.int (sg c), .int (sg d)])) := same_upd nM
    generalize hH2 : upd (upd H pT (.lst [.int (sg a), .int (sg b)])) pM (.lst [.int (sg c), .int (sg d)]) = H2 at s2
    have hT2 : H2 pT = some (.lst [.int (sg a), .int (sg b)]) := s2 _ _ upd_same
    have hM2 : H2 pM = some (.lst [.int (sg c), .int (sg d)]) := by
      rw [← hH2]
      exact upd_same
    have bad : ∀ H3 : Hp, placeOk a b c d u v w h = false → ∀ p, H3 p = none → Q (.ref p) (upd H3 p (.lst [V.int (-2)])) := fun H3 e p _ => by
      refine q _ p ?_
      unfold placeAns
      rw [e, if_neg Bool.false_ne_true]
      exact upd_same
    -- the ranges
    refine ⟨_, rfl, pT, [sg a, sg b], rfl, SqL.of hT2, (by show 2 ≤ 1000; decide), fun H3 s3 => ⟨_, rfl, ?_⟩⟩
    refine ite2 (fun e1 => ?_) (fun e1 => ?_)
    case refine_2 =>
      refine ⟨(by show 1 ≤ sizeLine; decide), bad H3 ?_⟩
      unfold placeOk turnsOk
      rw [Bool.not_eq_true _ |>.mp e1]
      rfl
    refine ⟨_, rfl, pM, [sg c, sg d], rfl, SqL.of (s3 _ _ hM2), (by show 2 ≤ 1000; decide), fun H4 s4 => ⟨_, rfl, ?_⟩⟩
    refine ite2 (fun e2 => ?_) (fun e2 => ?_)
    case refine_2 =>
      refine ⟨(by show 1 ≤ sizeLine; decide), bad H4 ?_⟩
      unfold placeOk turnsOk movesOk
      rw [e1, Bool.not_eq_true _ |>.mp e2]
      rfl
    refine ⟨_, rfl, _, rfl, _, rfl, _, rfl, (by show 4 ≤ sizeLine; decide), fun pS nS => ?_⟩
    refine ⟨pS, [u, v, w, h], rfl, SqL.of upd_same, (by show 4 ≤ 1000; decide), fun H5 s5 => ⟨_, rfl, ?_⟩⟩
    have s5' : Same H2 H5 := s3.trans (s4.trans ((same_upd nS).trans s5))
    have sH : Same H H5 := s1.trans (s2.trans s5')
    refine ite2 (fun e3 => ?_) (fun e3 => ?_)
    case refine_1 =>
      refine ⟨(by show 1 ≤ sizeLine; decide), bad H5 ?_⟩
      unfold placeOk turnsOk movesOk sidesOk
      rw [e1, e2, Bool.true_and, Bool.true_and]
      cases e4 : List.all [u, v, w, h] (inR 1 64) with
      | false => rfl
      | true =>
        rw [e4] at e3
        cases e3
    have e4 : sidesOk [u, v, w, h] = true := by
      unfold sidesOk
      cases e4 : List.all [u, v, w, h] (inR 1 64) with
      | false =>
        rw [e4] at e3
        exact absurd rfl e3
      | true => rfl
    have ok : placeOk a b c d u v w h = true := by
      unfold placeOk turnsOk movesOk
      rw [e1, e2, e4]
      rfl
    obtain ⟨_, _, bu, bv, bw, bh⟩ := placeOk_iff.mp ok
    obtain ⟨lf, lb⟩ := hlen ok
    have fin : placeAns a b c d u v w h fs bs = twoAns (placeL a b c d u v w h fs bs) := by
      unfold placeAns
      rw [if_pos ok]
    -- found
    refine ⟨_, rfl, _, rfl, _, rfl, _, rfl, _, rfl, _, rfl, _, rfl, _, rfl, pT, pM, fa, ba, sg a, sg b, sg c, sg d, u, v, w, h, fs, bs, rfl, SqL.of (s5' _ _ hT2), SqL.of (s5' _ _ hM2), sH.seq hF, sH.seq hB, bu, bv, bw, bh, lf, lb, fun H6 pF us s6 hp hR => ?_⟩
    have ll : (placeL a b c d u v w h fs bs).length ≤ 4096 := by
      unfold placeL
      rw [rows_length]
      exact Nat.mul_le_mul (show v.toNat ≤ 64 by omega) (show u.toNat ≤ 64 by omega)
    replace hR : RowsAt pr H6 us (placeL a b c d u v w h fs bs) := hR
    generalize placeL a b c d u v w h fs bs = l at hR fin ll
    -- numbers
    refine ⟨_, rfl, pF, rfl, ⟨_, SqL.of hp⟩, fun D1 nD1 => ?_⟩
    refine lc_list (K := K) (a := pF) (xs := us) (LcInv H6 D1 isI (fun i => (l.take i).map fun p => p.1)) (lc0 nD1 rfl) (fun i H' _ z => SqL.of (z.1 _ _ hp)) ?_ ?_
    · rintro i y H' hi inv
      obtain ⟨x, T, hx, rfl, hT⟩ := hR.get hi
      refine ⟨T, pr x, rfl, SqT.of (inv.1 _ _ hT), rfl, _, _, rfl, _, _, rfl, rfl, rfl, ?_⟩
      refine ⟨_, rfl, lcMore stI nD1 inv (Same.refl _) (z := x.1) rfl (take_map_more hx) ?_⟩
      rw [List.length_map, List.length_take]
      omega
    intro H7 inv7
    obtain ⟨s7, hd1⟩ := lcInts inv7
    rw [hR.len, List.take_length] at hd1
    -- covers
    refine ⟨_, rfl, pF, rfl, ⟨_, SqL.of (s7 _ _ hp)⟩, fun D2 nD2 => ?_⟩
    refine lc_list (K := K) (a := pF) (xs := us) (LcInv H7 D2 isI (fun i => (l.take i).map fun p => p.2)) (lc0 nD2 rfl) (fun i H' _ z => SqL.of (z.1 _ _ (s7 _ _ hp))) ?_ ?_
    · rintro i y H' hi inv
      obtain ⟨x, T, hx, rfl, hT⟩ := hR.get hi
      refine ⟨T, pr x, rfl, SqT.of (inv.1 _ _ (s7 _ _ hT)), rfl, _, _, rfl, _, _, rfl, rfl, rfl, ?_⟩
      refine ⟨_, rfl, lcMore stI nD2 inv (Same.refl _) (z := x.2) rfl (take_map_more hx) ?_⟩
      rw [List.length_map, List.length_take]
      omega
    intro H8 inv8
    obtain ⟨s8, hd2⟩ := lcInts inv8
    rw [hR.len, List.take_length] at hd2
    -- the answer
    refine ⟨(by show 2 ≤ sizeLine; decide), fun q1 nq1 => ?_⟩
    have t1 := same_upd (o := .lst [V.ref D1, V.ref D2]) nq1
    refine ⟨q1, [V.ref D1, V.ref D2], [l.map (fun (p : Int × Int) => p.1), l.map (fun (p : Int × Int) => p.2)], rfl, SqL.of upd_same, ⟨⟨D1, rfl, t1 _ _ (s8 _ _ hd1)⟩, ⟨D2, rfl, t1 _ _ hd2⟩, trivial⟩, ?_, fun H9 p9 _ hp9 => q H9 p9 ?_⟩
    · unfold toldOf
      simp only [List.flatMap_cons, List.flatMap_nil, List.append_nil, List.length_cons, List.length_append, List.length_map]
      omega
    · rw [hp9, fin]
      unfold toldOf twoAns
      simp only [List.flatMap_cons, List.flatMap_nil, List.append_nil, List.map_append, List.map_map, List.length_map, List.map_cons, List.map_nil, List.cons_append, List.nil_append, List.append_assoc]
end
end Ps
/-! ### the end -/
namespace Ps
open PySem PySem.Spec PyProof.Rows L2
theorem all_mk {P : Program} {w : World} {K : PySem.W.Frag} {h : Heap} {mg : Str → Option Value} {fa f1 f2 f3 f4 f5 f6 f7 f8 f9 f10 f11 f12 f13 : Addr} (X : K.In h) (G : h.Ns mainGlobals mg) (hfa : mg "sm_place" = some (.ref fa)) {tREFUSED} {tWORD} {tHALF_WORD} {tSTEPS} {tHALF_STEPS} {tTURN_UNIT} {tTURN_MOST} {tMOVE_MOST} {tSIDE_MOST}
    {od1 an1 od2 an2 od3 an3 od4 an4 od5 an5 od6 an6 od7 an7 od8 an8 od9 an9 od10 an10 od11 an11 od12 an12 od13 an13 : Option Addr} {sl1 sl2 sl3 sl4 sl5 sl6 sl7 sl8 sl9 sl10 sl11 sl12 sl13 : Array (Option Value)} {oc1 kV1 dc1 pm1 cd1 ct1 oc2 kV2 dc2 pm2 cd2 ct2 oc3 kV3 dc3 pm3 cd3 ct3 oc4 kV4 dc4 pm4 cd4 ct4 oc5 kV5 dc5 pm5 cd5 ct5 oc6 kV6 dc6 pm6 cd6 ct6 oc7 kV7 dc7 pm7 cd7 ct7 oc8 kV8 dc8 pm8 cd8 ct8 oc9 kV9 dc9 pm9 cd9 ct9 oc10 kV10 dc10 pm10 cd10 ct10 oc11 kV11 dc11 pm11 cd11 ct11 oc12 kV12 dc12 pm12 cd12 ct12 oc13 kV13 dc13 pm13 cd13 ct13 : Value}
    (a1 : PySem.W.nsIn K mainGlobals "signed" = some (some (.ref f1))) (l1 : K.lookup f1 = some ⟨oc1, od1, .func (PySem.W.fnOf "signed" "signed" (defArgs sSigned) (defBody sSigned) (defScope sSigned) .none kV1 dc1 pm1 an1 cd1 ct1), sl1⟩) (c1 : PySem.W.codeIn K cd1 "signed" = true) (k1 : PySem.W.keepIn K (.ref f1) = true)
    (a2 : PySem.W.nsIn K mainGlobals "all_within" = some (some (.ref f2))) (l2 : K.lookup f2 = some ⟨oc2, od2, .func (PySem.W.fnOf "all_within" "all_within" (defArgs sWithin) (defBody sWithin) (defScope sWithin) .none kV2 dc2 pm2 an2 cd2 ct2), sl2⟩) (c2 : PySem.W.codeIn K cd2 "all_within" = true) (k2 : PySem.W.keepIn K (.ref f2) = true)
    (a3 : PySem.W.nsIn K mainGlobals "all_turns" = some (some (.ref f3))) (l3 : K.lookup f3 = some ⟨oc3, od3, .func (PySem.W.fnOf "all_turns" "all_turns" (defArgs sTurns) (defBody sTurns) (defScope sTurns) .none kV3 dc3 pm3 an3 cd3 ct3), sl3⟩) (c3 : PySem.W.codeIn K cd3 "all_turns" = true) (k3 : PySem.W.keepIn K (.ref f3) = true)
    (a4 : PySem.W.nsIn K mainGlobals "all_moves" = some (some (.ref f4))) (l4 : K.lookup f4 = some ⟨oc4, od4, .func (PySem.W.fnOf "all_moves" "all_moves" (defArgs sMoves) (defBody sMoves) (defScope sMoves) .none kV4 dc4 pm4 an4 cd4 ct4), sl4⟩) (c4 : PySem.W.codeIn K cd4 "all_moves" = true) (k4 : PySem.W.keepIn K (.ref f4) = true)
    (a5 : PySem.W.nsIn K mainGlobals "all_sides" = some (some (.ref f5))) (l5 : K.lookup f5 = some ⟨oc5, od5, .func (PySem.W.fnOf "all_sides" "all_sides" (defArgs sSides) (defBody sSides) (defScope sSides) .none kV5 dc5 pm5 an5 cd5 ct5), sl5⟩) (c5 : PySem.W.codeIn K cd5 "all_sides" = true) (k5 : PySem.W.keepIn K (.ref f5) = true)
    (a6 : PySem.W.nsIn K mainGlobals "rounded" = some (some (.ref f6))) (l6 : K.lookup f6 = some ⟨oc6, od6, .func (PySem.W.fnOf "rounded" "rounded" (defArgs sRounded) (defBody sRounded) (defScope sRounded) .none kV6 dc6 pm6 an6 cd6 ct6), sl6⟩) (c6 : PySem.W.codeIn K cd6 "rounded" = true) (k6 : PySem.W.keepIn K (.ref f6) = true)
    (a7 : PySem.W.nsIn K mainGlobals "told" = some (some (.ref f7))) (l7 : K.lookup f7 = some ⟨oc7, od7, .func (PySem.W.fnOf "told" "told" (defArgs sTold) (defBody sTold) (defScope sTold) .none kV7 dc7 pm7 an7 cd7 ct7), sl7⟩) (c7 : PySem.W.codeIn K cd7 "told" = true) (k7 : PySem.W.keepIn K (.ref f7) = true)
    (a8 : PySem.W.nsIn K mainGlobals "middle" = some (some (.ref f8))) (l8 : K.lookup f8 = some ⟨oc8, od8, .func (PySem.W.fnOf "middle" "middle" (defArgs sMiddle) (defBody sMiddle) (defScope sMiddle) .none kV8 dc8 pm8 an8 cd8 ct8), sl8⟩) (c8 : PySem.W.codeIn K cd8 "middle" = true) (k8 : PySem.W.keepIn K (.ref f8) = true)
    (a9 : PySem.W.nsIn K mainGlobals "in_picture" = some (some (.ref f9))) (l9 : K.lookup f9 = some ⟨oc9, od9, .func (PySem.W.fnOf "in_picture" "in_picture" (defArgs sInPic) (defBody sInPic) (defScope sInPic) .none kV9 dc9 pm9 an9 cd9 ct9), sl9⟩) (c9 : PySem.W.codeIn K cd9 "in_picture" = true) (k9 : PySem.W.keepIn K (.ref f9) = true)
    (a10 : PySem.W.nsIn K mainGlobals "four_places" = some (some (.ref f10))) (l10 : K.lookup f10 = some ⟨oc10, od10, .func (PySem.W.fnOf "four_places" "four_places" (defArgs sFour) (defBody sFour) (defScope sFour) .none kV10 dc10 pm10 an10 cd10 ct10), sl10⟩) (c10 : PySem.W.codeIn K cd10 "four_places" = true) (k10 : PySem.W.keepIn K (.ref f10) = true)
    (a11 : PySem.W.nsIn K mainGlobals "between_four" = some (some (.ref f11))) (l11 : K.lookup f11 = some ⟨oc11, od11, .func (PySem.W.fnOf "between_four" "between_four" (defArgs sBetween) (defBody sBetween) (defScope sBetween) .none kV11 dc11 pm11 an11 cd11 ct11), sl11⟩) (c11 : PySem.W.codeIn K cd11 "between_four" = true) (k11 : PySem.W.keepIn K (.ref f11) = true)
    (a12 : PySem.W.nsIn K mainGlobals "placed" = some (some (.ref f12))) (l12 : K.lookup f12 = some ⟨oc12, od12, .func (PySem.W.fnOf "placed" "placed" (defArgs sPlaced) (defBody sPlaced) (defScope sPlaced) .none kV12 dc12 pm12 an12 cd12 ct12), sl12⟩) (c12 : PySem.W.codeIn K cd12 "placed" = true) (k12 : PySem.W.keepIn K (.ref f12) = true)
    (a13 : PySem.W.nsIn K mainGlobals "sm_place" = some (some (.ref f13))) (l13 : K.lookup f13 = some ⟨oc13, od13, .func (PySem.W.fnOf "sm_place" "sm_place" (defArgs sPlace) (defBody sPlace) (defScope sPlace) .none kV13 dc13 pm13 an13 cd13 ct13), sl13⟩) (c13 : PySem.W.codeIn K cd13 "sm_place" = true) (k13 : PySem.W.keepIn K (.ref f13) = true)
    (gREFUSED : PySem.W.nsIn K mainGlobals "REFUSED" = some (some (.int (-2) tREFUSED)))
    (gWORD : PySem.W.nsIn K mainGlobals "WORD" = some (some (.int 4294967296 tWORD)))
    (gHALF_WORD : PySem.W.nsIn K mainGlobals "HALF_WORD" = some (some (.int 2147483648 tHALF_WORD)))
    (gSTEPS : PySem.W.nsIn K mainGlobals "STEPS" = some (some (.int 64 tSTEPS)))
    (gHALF_STEPS : PySem.W.nsIn K mainGlobals "HALF_STEPS" = some (some (.int 32 tHALF_STEPS)))
    (gTURN_UNIT : PySem.W.nsIn K mainGlobals "TURN_UNIT" = some (some (.int 16384 tTURN_UNIT)))
    (gTURN_MOST : PySem.W.nsIn K mainGlobals "TURN_MOST" = some (some (.int 65536 tTURN_MOST)))
    (gMOVE_MOST : PySem.W.nsIn K mainGlobals "MOVE_MOST" = some (some (.int 8192 tMOVE_MOST)))
    (gSIDE_MOST : PySem.W.nsIn K mainGlobals "SIDE_MOST" = some (some (.int 64 tSIDE_MOST)))
    (zall : PySem.W.nsIn K mainGlobals "all" = some none)
    (zrange : PySem.W.nsIn K mainGlobals "range" = some none)
    (zlen : PySem.W.nsIn K mainGlobals "len" = some none)
    : ∃ fd : FuncData, (∀ (s : Shared) (us : List Value), us.length = (["a", "b", "c", "d", "u1", "v1", "w", "h", "f", "bad"] : List Str).length → BindsTo s fd ⟨us, []⟩ ((["a", "b", "c", "d", "u1", "v1", "w", "h", "f", "bad"] : List Str).zip us)) ∧ ∀ base : Heap, K.In base → base.Ns mainGlobals mg → FnOk P w K mg base CX0 4 fa fd ["a", "b", "c", "d", "u1", "v1", "w", "h", "f", "bad"] (spPlace K) := by
  have e := hfa.symm.trans (PySem.W.mg_of X G a13)
  cases e
  have F_signed := fun_mk (st := sSigned) l1 c1 k1
  have k_signed := k1
  have g_signed := PySem.W.mg_of X G a1
  have b_signed := F_signed.binds (ps := ["word"]) fun _ _ _ _ _ _ us hl => match us, hl with | [_], _ => rfl
  have F_all_within := fun_mk (st := sWithin) l2 c2 k2
  have k_all_within := k2
  have g_all_within := PySem.W.mg_of X G a2
  have b_all_within := F_all_within.binds (ps := ["numbers", "least", "most"]) fun _ _ _ _ _ _ us hl => match us, hl with | [_, _, _], _ => rfl
  have F_all_turns := fun_mk (st := sTurns) l3 c3 k3
  have k_all_turns := k3
  have g_all_turns := PySem.W.mg_of X G a3
  have b_all_turns := F_all_turns.binds (ps := ["numbers"]) fun _ _ _ _ _ _ us hl => match us, hl with | [_], _ => rfl
  have F_all_moves := fun_mk (st := sMoves) l4 c4 k4
  have k_all_moves := k4
  have g_all_moves := PySem.W.mg_of X G a4
  have b_all_moves := F_all_moves.binds (ps := ["numbers"]) fun _ _ _ _ _ _ us hl => match us, hl with | [_], _ => rfl
  have F_all_sides := fun_mk (st := sSides) l5 c5 k5
  have k_all_sides := k5
  have g_all_sides := PySem.W.mg_of X G a5
  have b_all_sides := F_all_sides.binds (ps := ["numbers"]) fun _ _ _ _ _ _ us hl => match us, hl with | [_], _ => rfl
  have F_rounded := fun_mk (st := sRounded) l6 c6 k6
  have k_rounded := k6
  have g_rounded := PySem.W.mg_of X G a6
  have b_rounded := F_rounded.binds (ps := ["dividend", "divisor"]) fun _ _ _ _ _ _ us hl => match us, hl with | [_, _], _ => rfl
  have F_told := fun_mk (st := sTold) l7 c7 k7
  have k_told := k7
  have g_told := PySem.W.mg_of X G a7
  have b_told := F_told.binds (ps := ["lists"]) fun _ _ _ _ _ _ us hl => match us, hl with | [_], _ => rfl
  have F_middle := fun_mk (st := sMiddle) l8 c8 k8
  have k_middle := k8
  have g_middle := PySem.W.mg_of X G a8
  have b_middle := F_middle.binds (ps := ["index"]) fun _ _ _ _ _ _ us hl => match us, hl with | [_], _ => rfl
  have F_in_picture := fun_mk (st := sInPic) l9 c9 k9
  have k_in_picture := k9
  have g_in_picture := PySem.W.mg_of X G a9
  have b_in_picture := F_in_picture.binds (ps := ["column", "row", "w", "h"]) fun _ _ _ _ _ _ us hl => match us, hl with | [_, _, _, _], _ => rfl
  have F_four_places := fun_mk (st := sFour) l10 c10 k10
  have k_four_places := k10
  have g_four_places := PySem.W.mg_of X G a10
  have b_four_places := F_four_places.binds (ps := ["x", "y"]) fun _ _ _ _ _ _ us hl => match us, hl with | [_, _], _ => rfl
  have F_between_four := fun_mk (st := sBetween) l11 c11 k11
  have k_between_four := k11
  have g_between_four := PySem.W.mg_of X G a11
  have b_between_four := F_between_four.binds (ps := ["x", "y", "w", "h", "f", "bad"]) fun _ _ _ _ _ _ us hl => match us, hl with | [_, _, _, _, _, _], _ => rfl
  have F_placed := fun_mk (st := sPlaced) l12 c12 k12
  have k_placed := k12
  have g_placed := PySem.W.mg_of X G a12
  have b_placed := F_placed.binds (ps := ["turns", "moves", "u1", "v1", "w", "h", "f", "bad"]) fun _ _ _ _ _ _ us hl => match us, hl with | [_, _, _, _, _, _, _, _], _ => rfl
  have F_sm_place := fun_mk (st := sPlace) l13 c13 k13
  have k_sm_place := k13
  have g_sm_place := PySem.W.mg_of X G a13
  have b_sm_place := F_sm_place.binds (ps := ["a", "b", "c", "d", "u1", "v1", "w", "h", "f", "bad"]) fun _ _ _ _ _ _ us hl => match us, hl with | [_, _, _, _, _, _, _, _, _, _], _ => rfl
  have c_REFUSED := PySem.W.mg_of X G gREFUSED
  have c_WORD := PySem.W.mg_of X G gWORD
  have c_HALF_WORD := PySem.W.mg_of X G gHALF_WORD
  have c_STEPS := PySem.W.mg_of X G gSTEPS
  have c_HALF_STEPS := PySem.W.mg_of X G gHALF_STEPS
  have c_TURN_UNIT := PySem.W.mg_of X G gTURN_UNIT
  have c_TURN_MOST := PySem.W.mg_of X G gTURN_MOST
  have c_MOVE_MOST := PySem.W.mg_of X G gMOVE_MOST
  have c_SIDE_MOST := PySem.W.mg_of X G gSIDE_MOST
  have z_all := PySem.W.mg_none_of X G zall
  have z_range := PySem.W.mg_none_of X G zrange
  have z_len := PySem.W.mg_none_of X G zlen
  exact ⟨PySem.W.fnOf "sm_place" "sm_place" (defArgs sPlace) (defBody sPlace) (defScope sPlace) .none kV13 dc13 pm13 an13 cd13 ct13, fun s us hu => match us, hu with | [_, _, _, _, _, _, _, _, _, _], _ => .of_eq rfl, fun base _ _ =>
    ok_place F_sm_place (ok_signed F_signed c_HALF_WORD c_WORD) g_signed k_signed b_signed (ok_turns F_all_turns F_all_within b_all_within g_all_within z_all c_TURN_MOST) g_all_turns k_all_turns b_all_turns (ok_moves F_all_moves F_all_within b_all_within g_all_within z_all c_MOVE_MOST) g_all_moves k_all_moves b_all_moves
      (ok_sides F_all_sides F_all_within b_all_within g_all_within z_all c_SIDE_MOST) g_all_sides k_all_sides b_all_sides
      (ok_placed F_placed (ok_middle F_middle c_STEPS c_HALF_STEPS) g_middle k_middle b_middle (ok_between F_between_four (ok_four F_four_places c_STEPS c_HALF_STEPS) g_four_places k_four_places b_four_places (ok_inpic F_in_picture) g_in_picture k_in_picture b_in_picture (ok_rnd F_rounded) g_rounded k_rounded b_rounded) g_between_four k_between_four b_between_four c_TURN_UNIT z_range) g_placed k_placed b_placed (ok_told F_told z_len) g_told k_told b_told c_REFUSED⟩
end Ps
open PySem PySem.W PyProof.Rows
set_option maxRecDepth 100000 in
set_option maxHeartbeats 8000000 in
theorem PySem.Challenge.cw_picturestack_s01_sm_place_holds : PySem.Challenge.rw_picturestack_s01_sm_place.Holds := by
  w_on; k_headS; (case hw => exact ⟨[.int 0, .int 0, .int 0, .int 0, .int 0, .int 0, .int 0, .int 0, .list [], .list []], by decide +kernel, by decide +kernel⟩)
  k_fillS
  refine L2.walk_specK (r := PySem.Challenge.rw_picturestack_s01_sm_place) (k := 4) (CX := L2.CX0) (ps := ["a", "b", "c", "d", "u1", "v1", "w", "h", "f", "bad"]) (sp := Ps.spPlace) (by decide +kernel) rfl rfl ⟨rfl, by decide, by decide⟩ (fun w h Y => PySem.W.kIn_of Y) ?F ?S (fun _ _ _ _ z => z)
  case F =>
    intro w mg fa h Y KX G hmg
    refine' Ps.all_mk KX G hmg ?a1 ?l1 ?c1 ?k1 ?a2 ?l2 ?c2 ?k2 ?a3 ?l3 ?c3 ?k3 ?a4 ?l4 ?c4 ?k4 ?a5 ?l5 ?c5 ?k5 ?a6 ?l6 ?c6 ?k6 ?a7 ?l7 ?c7 ?k7 ?a8 ?l8 ?c8 ?k8 ?a9 ?l9 ?c9 ?k9 ?a10 ?l10 ?c10 ?k10 ?a11 ?l11 ?c11 ?k11 ?a12 ?l12 ?c12 ?k12 ?a13 ?l13 ?c13 ?k13 ?gREFUSED ?gWORD ?gHALF_WORD ?gSTEPS ?gHALF_STEPS ?gTURN_UNIT ?gTURN_MOST ?gMOVE_MOST ?gSIDE_MOST ?zall ?zrange ?zlen
    (case a1 => k_is)
    (case l1 => k_is)
    (case c1 => k_is)
    (case k1 => k_is)
    (case a2 => k_is)
    (case l2 => k_is)
    (case c2 => k_is)
    (case k2 => k_is)
    (case a3 => k_is)
    (case l3 => k_is)
    (case c3 => k_is)
    (case k3 => k_is)
    (case a4 => k_is)
    (case l4 => k_is)
    (case c4 => k_is)
    (case k4 => k_is)
    (case a5 => k_is)
    (case l5 => k_is)
    (case c5 => k_is)
    (case k5 => k_is)
    (case a6 => k_is)
    (case l6 => k_is)
    (case c6 => k_is)
    (case k6 => k_is)
    (case a7 => k_is)
    (case l7 => k_is)
    (case c7 => k_is)
    (case k7 => k_is)
    (case a8 => k_is)
    (case l8 => k_is)
    (case c8 => k_is)
    (case k8 => k_is)
    (case a9 => k_is)
    (case l9 => k_is)
    (case c9 => k_is)
    (case k9 => k_is)
    (case a10 => k_is)
    (case l10 => k_is)
    (case c10 => k_is)
    (case k10 => k_is)
    (case a11 => k_is)
    (case l11 => k_is)
    (case c11 => k_is)
    (case k11 => k_is)
    (case a12 => k_is)
    (case l12 => k_is)
    (case c12 => k_is)
    (case k12 => k_is)
    (case a13 => k_is)
    (case l13 => k_is)
    (case c13 => k_is)
    (case k13 => k_is)
    (case gREFUSED => k_is)
    (case gWORD => k_is)
    (case gHALF_WORD => k_is)
    (case gSTEPS => k_is)
    (case gHALF_STEPS => k_is)
    (case gTURN_UNIT => k_is)
    (case gTURN_MOST => k_is)
    (case gMOVE_MOST => k_is)
    (case gSIDE_MOST => k_is)
    (case zall => k_is)
    (case zrange => k_is)
    (case zlen => k_is)
  case S =>
    intro K H xs a hO hwi hask hx
    obtain ⟨a, b, c, d, u, v, ww, hh, fs, bs, uu⟩ := a
    rcases hx with _ | ⟨h1, hx⟩
    rcases hx with _ | ⟨h2, hx⟩
    rcases hx with _ | ⟨h3, hx⟩
    rcases hx with _ | ⟨h4, hx⟩
    rcases hx with _ | ⟨h5, hx⟩
    rcases hx with _ | ⟨h6, hx⟩
    rcases hx with _ | ⟨h7, hx⟩
    rcases hx with _ | ⟨h8, hx⟩
    rcases hx with _ | ⟨h9, hx⟩
    rcases hx with _ | ⟨h10, hx⟩
    cases hx
    cases h1
    cases h2
    cases h3
    cases h4
    cases h5
    cases h6
    cases h7
    cases h8
    cases h9 with
    | lst hs ha =>
    cases h10 with
    | lst hs2 ha2 =>
      have e := L2.ints_dw fs _ ha
      subst e
      have e := L2.ints_dw bs _ ha2
      subst e
      have q : (Codec.inInt 0 4294967295 a && (Codec.inInt 0 4294967295 b && (Codec.inInt 0 4294967295 c && (Codec.inInt 0 4294967295 d && (Codec.inInt 0 4294967295 u && (Codec.inInt 0 4294967295 v && (Codec.inInt 0 4294967295 ww && (Codec.inInt 0 4294967295 hh && ((Codec.inLen 0 5000 fs && fs.all (Codec.inInt 0 65535)) && ((Codec.inLen 0 5000 bs && bs.all (Codec.inInt 0 255)) && true)))))))))) = true := hwi
      simp only [Bool.and_eq_true] at q
      obtain ⟨q1, q2, q3, q4, q5, q6, q7, q8, ⟨_, q9⟩, ⟨_, q10⟩, _⟩ := q
      have r1 := (Codec.inInt_iff.mp q1).1
      have r2 := (Codec.inInt_iff.mp q2).1
      have r3 := (Codec.inInt_iff.mp q3).1
      have r4 := (Codec.inInt_iff.mp q4).1
      have r5 := (Codec.inInt_iff.mp q5).1
      have r6 := (Codec.inInt_iff.mp q6).1
      have r7 := (Codec.inInt_iff.mp q7).1
      have r8 := (Codec.inInt_iff.mp q8).1
      have r9 : ∀ n ∈ fs, 0 ≤ n := fun n hn => (Codec.inInt_iff.mp (List.all_eq_true.mp q9 n hn)).1
      have r10 : ∀ n ∈ bs, 0 ≤ n := fun n hn => (Codec.inInt_iff.mp (List.all_eq_true.mp q10 n hn)).1
      have hask' : PySh69.sm_place_asked a b c d u v ww hh fs bs = true := hask
      refine ⟨a, b, c, d, u, v, ww, hh, _, _, fs, bs, rfl, hs, hs2, fun k => Ps.place_len r1 r2 r3 r4 r5 r6 r7 r8 hask' k, fun H' p hp => ?_⟩
      show L2.Dw K H' (.ref p) (WData.list ((PySh69.sm_place a b c d u v ww hh fs bs).map WData.int))
      rw [Ps.place_is r1 r2 r3 r4 r5 r6 r7 r8 r9 r10]
      exact .lst (L2.SqL.of hp) (L2.dw_ints _)
#print axioms PySem.Challenge.cw_picturestack_s01_sm_place_holds
