import Derived.Test.YtljcljipppjnoabGreatDoorRows
import Derived.WalkKit
import Derived.WalkSpells
import Derived.WalkLawsBesides
import Derived.Handy
import Derived.Lib.Strings
import Derived.Deep.RegionWith
import Derived.Deep.LoopGhost
import Derived.Deep.AppendSrc
import Derived.Lib.SmallJoins
namespace Go.Proofs.YtljcljipppjnoabGreatDoor
open Go.RowKit
def isBl (c : UInt8) : Bool := c == 32 || c == 9
def blankS (s : ByteArray) : Bool := s.data.toList.all isBl
def beginsS (s w : ByteArray) : Bool := w.data.toList.isPrefixOf s.data.toList
theorem take_snoc (s : ByteArray) (k : Nat) (h : k < s.size) : s.data.toList.take (k + 1) = s.data.toList.take k ++ [s[k]] := by
  rw [List.take_succ_eq_append_getElem (by simpa using h)]; rfl
theorem drop_cons (s : ByteArray) (k : Nat) (h : k < s.size) : s.data.toList.drop k = s[k] :: s.data.toList.drop (k + 1) := by
  rw [List.drop_eq_getElem_cons (by simpa using h)]; rfl
theorem u8_eq (c d : UInt8) : ((c.toNat : Int) == (d.toNat : Int)) = (c == d) := by
  rw [Bool.eq_iff_iff, beq_iff_eq, beq_iff_eq]
  constructor
  · intro h
    exact UInt8.toNat_inj.1 (by omega)
  · intro h
    rw [h]
theorem list_of (s : ByteArray) : s.toList = s.data.toList := by
  have h := Lib.extract_toList s 0 s.size
  have e : s.extract 0 s.size = s := by
    apply ByteArray.ext
    rw [ByteArray.data_extract]
    exact Array.extract_size
  rw [e] at h
  rw [h, List.drop_zero, Nat.sub_zero, List.take_of_length_le]
  rw [Array.length_toList]
  exact Nat.le_refl _
theorem begins_short (s p : ByteArray) (h : ¬ p.size ≤ s.size) : beginsS s p = false := by
  rw [Bool.eq_false_iff]
  intro h1
  unfold beginsS at h1
  rw [List.isPrefixOf_iff_prefix] at h1
  have := h1.length_le
  rw [Array.length_toList, Array.length_toList] at this
  exact h this
def itemS (s : ByteArray) : Bool := (s.toList == [45]) || beginsS s ⟨#[45, 32]⟩ || beginsS s ⟨#[45, 9]⟩
def trimL (l : List UInt8) : List UInt8 := ((l.dropWhile isBl).reverse.dropWhile isBl).reverse
def trimS (s : ByteArray) : ByteArray := ⟨(trimL s.data.toList).toArray⟩
theorem ext_tail (s : ByteArray) (h : 0 < s.size) : s.data.toList = s[0] :: (s.extract 1 s.size).data.toList := by
  have := drop_cons s 0 h
  rw [List.drop_zero] at this
  rw [this, Lib.extract_data, List.take_of_length_le]
  rw [List.length_drop, Array.length_toList]
  exact Nat.le_refl _
theorem u8_bl (c : UInt8) : isBl c = (((c.toNat : Int) == 32) || ((c.toNat : Int) == 9)) := by
  have h1 := u8_eq c 32
  have h2 := u8_eq c 9
  unfold isBl
  rw [← h1, ← h2]
  rfl
end Go.Proofs.YtljcljipppjnoabGreatDoor

namespace Go.Proofs.YtljcljipppjnoabGreatDoor
open Go.RowKit
def hashes (l : List UInt8) : Nat := (l.takeWhile (· == 35)).length
def levelS (s : ByteArray) : Nat :=
  if hashes s.data.toList < 1 ∨ 3 < hashes s.data.toList ∨ (s.data.toList[hashes s.data.toList]?).map isBl = some false then 0 else hashes s.data.toList
theorem at_some (s : ByteArray) (k : Nat) (h : k < s.size) : s.data.toList[k]? = some s[k] := by
  rw [List.getElem?_eq_getElem (by rw [Array.length_toList]; exact h)]
  rfl
theorem at_none (s : ByteArray) (k : Nat) (h : ¬ k < s.size) : s.data.toList[k]? = none := by
  rw [List.getElem?_eq_none_iff, Array.length_toList]
  show s.size ≤ k
  omega
def startsS (s : ByteArray) (depth : Int) : Int :=
  if beginsS s ⟨#[96, 96, 96]⟩ = true then 2
  else if 0 < levelS s then 3
  else if beginsS s ⟨#[62]⟩ = true ∧ depth < 3 then 4
  else if itemS s = true ∧ depth < 3 then 5
  else 0
end Go.Proofs.YtljcljipppjnoabGreatDoor

namespace Go.Proofs.YtljcljipppjnoabGreatDoor
open Go.RowKit
def linesL : List UInt8 → List UInt8 → List (List UInt8)
  | cur, [] => if cur = [] then [] else [cur]
  | cur, c :: r => if c = 10 then cur :: linesL [] r else linesL (cur ++ [c]) r
def strCs (ls : List (List UInt8)) : List Value := ls.map fun l => Value.string ⟨l.toArray⟩
theorem Tryz.infoStr : (Tryz.prog.info? 9).map (fun i => (i.zero, i.size, i.bytes)) = some (some (.string ⟨#[]⟩), 1, 16) := by kernel_rfl
end Go.Proofs.YtljcljipppjnoabGreatDoor

namespace Go.Proofs.YtljcljipppjnoabGreatDoor
open Go.RowKit
structure Ev where
  kind : Int
  fin : Bool
  level : Int
  text : List UInt8
def evCells (e : Ev) : List Value := [.int .i64 e.kind, .bool e.fin, .int .i64 e.level, .string ⟨e.text.toArray⟩]
def evCs (l : List Ev) : List Value := l.flatMap evCells
theorem evCs_append (a b : List Ev) : evCs (a ++ b) = evCs a ++ evCs b := by simp [evCs]
theorem evCs_one (e : Ev) : evCs [e] = evCells e := by simp [evCs]
def leafS (kind level : Int) (t : List UInt8) : List Ev :=
  [⟨kind, false, level, []⟩] ++ (if t = [] then [] else [⟨8, false, 0, t⟩]) ++ [⟨kind, true, level, []⟩]
theorem ev_cell (w : World) (e : Ev) (t : TypeId) {n : Nat} (hn : n = w.heap.size) : ∀ j u, (evCells e)[j]? = some u → (w.alloc (.cells (evCells e).toArray t)).cell? ((⟨n, 0, none⟩ : Addr).add j) = some u := by
  subst hn
  intro j u hj
  rw [Addr.add_lit, Nat.zero_add]
  have hh : (w.alloc (.cells (evCells e).toArray t)).heap[w.heap.size]? = some (.cells (evCells e).toArray t (0, 0)) := by
    show (w.heap.push _)[w.heap.size]? = _
    simp
  simp only [World.cell?, hh]
  simpa using hj
theorem ev_one (e : Ev) : ∀ u ∈ evCells e, u.oneCell' = true := by
  intro u hu
  simp [evCells] at hu
  rcases hu with rfl | rfl | rfl | rfl <;> rfl
end Go.Proofs.YtljcljipppjnoabGreatDoor

namespace Go.Proofs.YtljcljipppjnoabGreatDoor
open Go.RowKit
structure Strs (g o cap : Nat) (ls : List (List UInt8)) (w : World) : Prop where
  fits : ls.length ≤ cap
  max : cap ≤ 9223372036854775807
  lt : g < w.heap.size
  cell : ∀ (j : Nat) (l : List UInt8), ls[j]? = some l → w.cell? ⟨g, o + j, none⟩ = some (.string ⟨l.toArray⟩)
theorem Strs.below {g o cap B : Nat} {ls : List (List UInt8)} {w w' : World} (h : Strs g o cap ls w) (hb : Below B w w') (hg : g < B) : Strs g o cap ls w' :=
  ⟨h.fits, h.max, by have := hb.size; have := h.lt; omega, fun j l hj => (hb.cell (p := ⟨g, o + j, none⟩) hg).trans (h.cell j l hj)⟩
def blankL (l : List UInt8) : Bool := l.all isBl
def behindS (ls : List (List UInt8)) (n : Nat) : Nat := n + ((ls.drop n).takeWhile blankL).length
def Small (M : Nat) (ls : List (List UInt8)) : Prop := ls.length ≤ M ∧ ∀ l ∈ ls, l.length ≤ M
theorem behind_lt (ls : List (List UInt8)) (n : Nat) (h : n < ls.length) (hb : blankL ls[n] = true) : behindS ls n = behindS ls (n + 1) := by
  unfold behindS
  rw [List.drop_eq_getElem_cons h, List.takeWhile_cons, if_pos hb]
  simp
  omega
theorem behind_at (ls : List (List UInt8)) (n : Nat) (h : n < ls.length) (hb : blankL ls[n] = false) : behindS ls n = n := by
  unfold behindS
  rw [List.drop_eq_getElem_cons h, List.takeWhile_cons, if_neg (by simp [hb])]
  rfl
theorem behind_end (ls : List (List UInt8)) (n : Nat) (h : n = ls.length) : behindS ls n = n := by
  unfold behindS
  rw [List.drop_eq_nil_iff.2 (by omega)]
  rfl
theorem size_of (l : List UInt8) : (⟨l.toArray⟩ : ByteArray).size = l.length := by
  show l.toArray.size = _
  simp
end Go.Proofs.YtljcljipppjnoabGreatDoor

namespace Go.Proofs.YtljcljipppjnoabGreatDoor
open Go.RowKit
def joinT : List (List UInt8) → List UInt8
  | [] => []
  | l :: r => trimL l ++ r.flatMap fun x => 10 :: trimL x
def stays (depth : Int) (l : List UInt8) : Bool := !blankL l && decide (startsS ⟨l.toArray⟩ depth = 0)
def paraFrom (ls : List (List UInt8)) (depth : Int) (k : Nat) : Nat := k + ((ls.drop k).takeWhile (stays depth)).length
theorem para_lt (ls : List (List UInt8)) (d : Int) (n : Nat) (h : n < ls.length) (hb : stays d ls[n] = true) : paraFrom ls d n = paraFrom ls d (n + 1) := by
  unfold paraFrom
  rw [List.drop_eq_getElem_cons h, List.takeWhile_cons, if_pos hb]
  simp
  omega
theorem para_at (ls : List (List UInt8)) (d : Int) (n : Nat) (h : n < ls.length) (hb : stays d ls[n] = false) : paraFrom ls d n = n := by
  unfold paraFrom
  rw [List.drop_eq_getElem_cons h, List.takeWhile_cons, if_neg (by simp [hb])]
  rfl
theorem para_end (ls : List (List UInt8)) (d : Int) (n : Nat) (h : n = ls.length) : paraFrom ls d n = n := by
  unfold paraFrom
  rw [List.drop_eq_nil_iff.2 (by omega)]
  rfl
theorem trimL_le (l : List UInt8) : (trimL l).length ≤ l.length := by
  unfold trimL
  rw [List.length_reverse]
  have h1 := (List.dropWhile_sublist (l := (l.dropWhile isBl).reverse) isBl).length_le
  have h2 := (List.dropWhile_sublist (l := l) isBl).length_le
  rw [List.length_reverse] at h1
  omega
theorem ba_app (a b : List UInt8) : (⟨a.toArray⟩ : ByteArray) ++ ⟨b.toArray⟩ = ⟨(a ++ b).toArray⟩ := by
  apply ByteArray.ext
  rw [ByteArray.data_append]
  simp
theorem ba3 (a b c : List UInt8) : (⟨a.toArray⟩ : ByteArray) ++ ⟨b.toArray⟩ ++ ⟨c.toArray⟩ = ⟨(a ++ (b ++ c)).toArray⟩ := by
  rw [ba_app, ba_app, List.append_assoc]
theorem snoc_take (ls : List (List UInt8)) (k : Nat) (h : k < ls.length) : ls.take (k + 1) = ls.take k ++ [ls[k]] := List.take_succ_eq_append_getElem h
end Go.Proofs.YtljcljipppjnoabGreatDoor

namespace Go.Proofs.YtljcljipppjnoabGreatDoor
open Go.RowKit
def ticks : ByteArray := ⟨#[96, 96, 96]⟩
def shuts (l : List UInt8) : Bool := beginsS ⟨l.toArray⟩ ⟨#[96, 96, 96]⟩ && blankL (l.drop 3)
def shutAt (ls : List (List UInt8)) (k : Nat) : Nat := k + ((ls.drop k).takeWhile (fun l => !shuts l)).length
def codeOf (ls : List (List UInt8)) : List UInt8 := ls.flatMap fun l => l ++ [10]
def fencedN (ls : List (List UInt8)) : Nat := if shutAt ls 1 < ls.length then shutAt ls 1 + 1 else ls.length
def fencedT (ls : List (List UInt8)) : List UInt8 := codeOf ((ls.take (shutAt ls 1)).drop 1)
theorem codeOf_snoc (ls : List (List UInt8)) (x : List UInt8) : codeOf (ls ++ [x]) = codeOf ls ++ (x ++ [10]) := by
  simp [codeOf]
theorem ba_ext (l : List UInt8) (a b : Nat) (hb : b = l.length) : (⟨l.toArray⟩ : ByteArray).extract a b = ⟨(l.drop a).toArray⟩ := by
  apply ByteArray.ext
  apply Array.ext'
  rw [Lib.extract_data, List.take_of_length_le (by simp [hb])]
end Go.Proofs.YtljcljipppjnoabGreatDoor

namespace Go.Proofs.YtljcljipppjnoabGreatDoor
open Go.RowKit
def LinesV (v : Value) (ls : List (List UInt8)) (w : World) : Prop :=
  (ls = [] ∧ v = .slice none 0 0) ∨ ∃ g o cap, v = .slice (some ⟨g, o, none⟩) ls.length cap ∧ Strs g o cap ls w
theorem lines_own {w : World} {base : Nat} {t : TypeId} {v : Value} {ls : List (List UInt8)} (h : w.ownsRow base t 1 v ls.length (strCs ls)) : LinesV v ls w := by
  rcases h.2 with ⟨hv, h0⟩ | ⟨g, cap, cur, hv, hb, hg, hnc, hcm, hcs, ht⟩
  · exact Or.inl ⟨List.eq_nil_of_length_eq_zero h0, hv⟩
  · refine Or.inr ⟨g, 0, cap, hv, hnc, by simp only [maxLen] at hcm; omega, ?_, ?_⟩
    · rcases Nat.lt_or_ge g w.heap.size with hlt | hge
      · exact hlt
      · rw [Array.getElem?_eq_none hge] at hg; cases hg
    · intro j l hj
      have hc := h.cells (g := g) (by rw [hv]; rfl) j (.string ⟨l.toArray⟩) (by simp [strCs, hj])
      rw [Addr.add_lit] at hc
      exact hc
theorem Strs.drop {g o cap : Nat} {ls : List (List UInt8)} {w : World} (h : Strs g o cap ls w) (n : Nat) (hn : n ≤ ls.length) : Strs g (o + n) (cap - n) (ls.drop n) w := by
  have hf := h.fits
  have hm := h.max
  refine ⟨by rw [List.length_drop]; omega, by omega, h.lt, ?_⟩
  intro j l hj
  rw [List.getElem?_drop] at hj
  have := h.cell (n + j) l hj
  rw [← Nat.add_assoc] at this
  exact this
theorem Small.drop {M : Nat} {ls : List (List UInt8)} (h : Small M ls) (n : Nat) : Small M (ls.drop n) :=
  ⟨by have := h.1; rw [List.length_drop]; omega, fun l hl => h.2 l (List.mem_of_mem_drop hl)⟩
end Go.Proofs.YtljcljipppjnoabGreatDoor

namespace Go.Proofs.YtljcljipppjnoabGreatDoor
open Go.RowKit
def scan (p : List UInt8 → Bool) (ls : List (List UInt8)) (n : Nat) : Nat := n + ((ls.drop n).takeWhile p).length
theorem scan_lt (p : List UInt8 → Bool) (ls : List (List UInt8)) (n : Nat) (h : n < ls.length) (hb : p ls[n] = true) : scan p ls n = scan p ls (n + 1) := by
  unfold scan
  rw [List.drop_eq_getElem_cons h, List.takeWhile_cons, if_pos hb]
  simp
  omega
theorem scan_at (p : List UInt8 → Bool) (ls : List (List UInt8)) (n : Nat) (h : n < ls.length) (hb : p ls[n] = false) : scan p ls n = n := by
  unfold scan
  rw [List.drop_eq_getElem_cons h, List.takeWhile_cons, if_neg (by simp [hb])]
  rfl
theorem scan_end (p : List UInt8 → Bool) (ls : List (List UInt8)) (n : Nat) (h : n = ls.length) : scan p ls n = n := by
  unfold scan
  rw [List.drop_eq_nil_iff.2 (by omega)]
  rfl
def isQ : List UInt8 → Bool
  | [] => false
  | c :: _ => c == 62
def unq1 : List UInt8 → List UInt8
  | [] => []
  | c :: r => if c == 32 then r else c :: r
def unq (l : List UInt8) : List UInt8 := unq1 (l.drop 1)
def quoteN (ls : List (List UInt8)) : Nat := scan isQ ls 0
def quoteIn (ls : List (List UInt8)) : List (List UInt8) := (ls.take (quoteN ls)).map unq
def quoteS (inner : List (List UInt8) → List Ev) (ls : List (List UInt8)) : List Ev := [⟨2, false, 0, []⟩] ++ inner (quoteIn ls) ++ [⟨2, true, 0, []⟩]
theorem own_below {w w' : World} {base B size n : Nat} {e : TypeId} {v : Value} {xs : List Value} (h : w.ownsRow base e size v n xs) (hb : Below B w w') (hB : w.heap.size ≤ B) : w'.ownsRow base e size v n xs := by
  refine ⟨h.1, ?_⟩
  rcases h.2 with h0 | ⟨g, cap, cur, hv, hg, hh, r⟩
  · exact Or.inl h0
  · refine Or.inr ⟨g, cap, cur, hv, hg, ?_, r⟩
    rw [hb.block g, hh]
    have : g < w.heap.size := by
      rcases Nat.lt_or_ge g w.heap.size with hlt | hge
      · exact hlt
      · rw [Array.getElem?_eq_none hge] at hh; cases hh
    omega
theorem unq_le (l : List UInt8) : (unq l).length ≤ l.length := by
  unfold unq
  have h : (l.drop 1).length ≤ l.length := by rw [List.length_drop]; omega
  cases hd : l.drop 1 with
  | nil => simp [unq1]
  | cons c r =>
    rw [hd, List.length_cons] at h
    simp only [unq1]
    split
    · omega
    · simp only [List.length_cons]; omega
theorem quote_len (inner : List (List UInt8) → List Ev) (ls : List (List UInt8)) : (quoteS inner ls).length = 1 + (inner (quoteIn ls)).length + 1 := by
  simp [quoteS]; omega
end Go.Proofs.YtljcljipppjnoabGreatDoor

namespace Go.Proofs.YtljcljipppjnoabGreatDoor
open Go.RowKit
theorem behind_ge (ls : List (List UInt8)) (n : Nat) : n ≤ behindS ls n := by unfold behindS; omega
theorem behind_le (ls : List (List UInt8)) (n : Nat) (h : n ≤ ls.length) : behindS ls n ≤ ls.length := by
  unfold behindS
  have := (List.takeWhile_sublist (l := ls.drop n) blankL).length_le
  rw [List.length_drop] at this
  omega
def two (l : List UInt8) : Bool := beginsS ⟨l.toArray⟩ ⟨#[32, 32]⟩
def itemL (l : List UInt8) : Bool := itemS ⟨l.toArray⟩
def moreAt (ls : List (List UInt8)) (n : Nat) : List (List UInt8) × Nat :=
  if h : behindS ls n < ls.length then
    if two ls[behindS ls n] = true then (List.replicate (behindS ls n - n) [] ++ ls[behindS ls n].drop 2 :: (moreAt ls (behindS ls n + 1)).1, (moreAt ls (behindS ls n + 1)).2)
    else ([], n)
  else ([], n)
termination_by ls.length - n
decreasing_by all_goals (have := behind_ge ls n; omega)
theorem more_go (ls : List (List UInt8)) (n k : Nat) (hk : behindS ls n = k) (h : k < ls.length) (h2 : two ls[k] = true) :
    moreAt ls n = (List.replicate (k - n) [] ++ ls[k].drop 2 :: (moreAt ls (k + 1)).1, (moreAt ls (k + 1)).2) := by
  subst hk
  rw [moreAt, dif_pos h, if_pos h2]
theorem more_no (ls : List (List UInt8)) (n k : Nat) (hk : behindS ls n = k) (h : k < ls.length) (h2 : two ls[k] = false) : moreAt ls n = ([], n) := by
  subst hk
  rw [moreAt, dif_pos h, if_neg (by simp [h2])]
theorem more_end (ls : List (List UInt8)) (n k : Nat) (hk : behindS ls n = k) (h : ¬ k < ls.length) : moreAt ls n = ([], n) := by
  subst hk
  rw [moreAt, dif_neg h]
theorem more_facts (ls : List (List UInt8)) (n : Nat) (hn : n ≤ ls.length) : n ≤ (moreAt ls n).2 ∧ (moreAt ls n).2 ≤ ls.length ∧ (moreAt ls n).1.length = (moreAt ls n).2 - n ∧ ∀ M, Small M ls → ∀ l ∈ (moreAt ls n).1, l.length ≤ M := by
  induction hm : ls.length - n using Nat.strongRecOn generalizing n with
  | _ m ih =>
    have hge := behind_ge ls n
    by_cases h : behindS ls n < ls.length
    · cases h2 : two ls[behindS ls n] with
      | true =>
        obtain ⟨a1, a2, a3, a4⟩ := ih (ls.length - (behindS ls n + 1)) (by omega) (behindS ls n + 1) (by omega) rfl
        rw [more_go ls n _ rfl h h2]
        refine ⟨by simp only; omega, a2, ?_, ?_⟩
        · simp only [List.length_append, List.length_replicate, List.length_cons, a3]
          omega
        · intro M hM l hl
          simp only [List.mem_append, List.mem_replicate, List.mem_cons] at hl
          rcases hl with ⟨_, rfl⟩ | rfl | hl
          · simp
          · have := hM.2 ls[behindS ls n] (List.getElem_mem h)
            rw [List.length_drop]
            omega
          · exact a4 M hM l hl
      | false =>
        rw [more_no ls n _ rfl h h2]
        exact ⟨Nat.le_refl _, hn, by simp, fun _ _ l hl => by cases hl⟩
    · rw [more_end ls n _ rfl h]
      exact ⟨Nat.le_refl _, hn, by simp, fun _ _ l hl => by cases hl⟩
theorem more_ge (ls : List (List UInt8)) (n : Nat) : n ≤ (moreAt ls n).2 := by
  by_cases hn : n ≤ ls.length
  · exact (more_facts ls n hn).1
  · have : ¬ behindS ls n < ls.length := by have := behind_ge ls n; omega
    rw [more_end ls n _ rfl this]
    exact Nat.le_refl _
def itemIn (ls : List (List UInt8)) (n : Nat) : List (List UInt8) := (ls[n]?.getD []).drop 2 :: (moreAt ls (n + 1)).1
def itemEv (inner : List (List UInt8) → List Ev) (ls : List (List UInt8)) (n : Nat) : List Ev := [⟨4, false, 0, []⟩] ++ inner (itemIn ls n) ++ [⟨4, true, 0, []⟩]
def itemsAt (inner : List (List UInt8) → List Ev) (ls : List (List UInt8)) (n : Nat) : List Ev × Nat :=
  if h : behindS ls (moreAt ls (n + 1)).2 < ls.length then
    if itemL ls[behindS ls (moreAt ls (n + 1)).2] = true then
      (itemEv inner ls n ++ (itemsAt inner ls (behindS ls (moreAt ls (n + 1)).2)).1, (itemsAt inner ls (behindS ls (moreAt ls (n + 1)).2)).2)
    else (itemEv inner ls n, (moreAt ls (n + 1)).2)
  else (itemEv inner ls n, (moreAt ls (n + 1)).2)
termination_by ls.length - n
decreasing_by all_goals (have := behind_ge ls (moreAt ls (n + 1)).2; have := more_ge ls (n + 1); omega)
theorem items_go (inner : List (List UInt8) → List Ev) (ls : List (List UInt8)) (n k : Nat) (hk : behindS ls (moreAt ls (n + 1)).2 = k) (h : k < ls.length) (h2 : itemL ls[k] = true) :
    itemsAt inner ls n = (itemEv inner ls n ++ (itemsAt inner ls k).1, (itemsAt inner ls k).2) := by
  subst hk
  rw [itemsAt, dif_pos h, if_pos h2]
theorem items_no (inner : List (List UInt8) → List Ev) (ls : List (List UInt8)) (n k : Nat) (hk : behindS ls (moreAt ls (n + 1)).2 = k) (h : k < ls.length) (h2 : itemL ls[k] = false) :
    itemsAt inner ls n = (itemEv inner ls n, (moreAt ls (n + 1)).2) := by
  subst hk
  rw [itemsAt, dif_pos h, if_neg (by simp [h2])]
theorem items_end (inner : List (List UInt8) → List Ev) (ls : List (List UInt8)) (n k : Nat) (hk : behindS ls (moreAt ls (n + 1)).2 = k) (h : ¬ k < ls.length) :
    itemsAt inner ls n = (itemEv inner ls n, (moreAt ls (n + 1)).2) := by
  subst hk
  rw [itemsAt, dif_neg h]
theorem item_small (ls : List (List UInt8)) (n : Nat) (hn : n < ls.length) (M : Nat) (hM : Small M ls) : Small M (itemIn ls n) ∧ (itemIn ls n).length = (moreAt ls (n + 1)).2 - n := by
  obtain ⟨a1, a2, a3, a4⟩ := more_facts ls (n + 1) (by omega)
  have hl : (itemIn ls n).length = (moreAt ls (n + 1)).2 - n := by
    rw [itemIn, List.length_cons, a3]
    omega
  refine ⟨⟨by have := hM.1; omega, ?_⟩, hl⟩
  intro l hl
  rw [itemIn, List.mem_cons] at hl
  rcases hl with rfl | hl
  · rw [List.getElem?_eq_getElem hn, Option.getD_some, List.length_drop]
    have := hM.2 ls[n] (List.getElem_mem hn)
    omega
  · exact a4 M hM l hl
theorem items_facts (inner : List (List UInt8) → List Ev) (c : Nat) (hI : ∀ ls, (inner ls).length ≤ c * ls.length) (ls : List (List UInt8)) (n : Nat) (hn : n < ls.length) :
    n < (itemsAt inner ls n).2 ∧ (itemsAt inner ls n).2 ≤ ls.length ∧ (itemsAt inner ls n).1.length ≤ (c + 2) * ((itemsAt inner ls n).2 - n) := by
  induction hm : ls.length - n using Nat.strongRecOn generalizing n with
  | _ m ih =>
    obtain ⟨a1, a2, a3, _⟩ := more_facts ls (n + 1) (by omega)
    have hev : (itemEv inner ls n).length ≤ (c + 2) * ((moreAt ls (n + 1)).2 - n) := by
      have h1 := hI (itemIn ls n)
      have h2 : (itemIn ls n).length = (moreAt ls (n + 1)).2 - n := by rw [itemIn, List.length_cons, a3]; omega
      rw [h2] at h1
      rw [Nat.add_mul]
      simp only [itemEv, List.length_append, List.length_singleton]
      omega
    have hge := behind_ge ls (moreAt ls (n + 1)).2
    by_cases h : behindS ls (moreAt ls (n + 1)).2 < ls.length
    · cases h2 : itemL ls[behindS ls (moreAt ls (n + 1)).2] with
      | true =>
        obtain ⟨b1, b2, b3⟩ := ih (ls.length - behindS ls (moreAt ls (n + 1)).2) (by omega) (behindS ls (moreAt ls (n + 1)).2) h rfl
        rw [items_go inner ls n _ rfl h h2]
        refine ⟨by simp only; omega, b2, ?_⟩
        simp only [List.length_append]
        generalize hx : itemsAt inner ls (behindS ls (moreAt ls (n + 1)).2) = X at b1 b2 b3
        have h3 : (c + 2) * ((moreAt ls (n + 1)).2 - n) + (c + 2) * (X.2 - behindS ls (moreAt ls (n + 1)).2) ≤ (c + 2) * (X.2 - n) := by
          rw [← Nat.mul_add]
          exact Nat.mul_le_mul_left _ (by omega)
        omega
      | false =>
        rw [items_no inner ls n _ rfl h h2]
        exact ⟨by simp only; omega, a2, hev⟩
    · rw [items_end inner ls n _ rfl h]
      exact ⟨by simp only; omega, a2, hev⟩
def listS (inner : List (List UInt8) → List Ev) (ls : List (List UInt8)) : List Ev := [⟨3, false, 0, []⟩] ++ (itemsAt inner ls 0).1 ++ [⟨3, true, 0, []⟩]
def listN (inner : List (List UInt8) → List Ev) (ls : List (List UInt8)) : Nat := (itemsAt inner ls 0).2
end Go.Proofs.YtljcljipppjnoabGreatDoor
