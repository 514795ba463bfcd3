import Derived.Test.YtljcljipppjnoaaGreatDoorShelfS
import Derived.Test.YtljcljipppjnoaaGreatDoorShelf
import Derived.Test.YtljcljipppjnoaaGreatDoorRefAll
namespace Go.Proofs.YtljcljipppjnoaaGreatDoor
open Go.RowKit Go.Shelf

theorem sh_prefix (s p : ByteArray) (w : World) :
    Calls Tryz.prog 176 #[.string s, .string p] w fun e w' => e = .returned (.bool (beginsS s p)) ∧ w' = w := Any.strings_HasPrefix Tryz.lays99 s p w
theorem sh_trimPrefix (s p : ByteArray) (w : World) :
    Calls Tryz.prog 181 #[.string s, .string p] w fun e w' => e = .returned (.string ⟨(Lib.trimPrefix s.data.toList p.data.toList).toArray⟩) ∧ w' = w := Any.strings_TrimPrefix Tryz.lays101 s p w
theorem sh_trim (s : ByteArray) (w : World) (hs : s.size ≤ 9223372036854775807) :
    Calls Tryz.prog 175 #[.string s, .string ⟨#[32, 9]⟩] w fun e w' => e = .returned (.string ⟨(Lib.trimS s.data.toList [32, 9]).toArray⟩) ∧ Below w.heap.size w w' :=
  Any.strings_Trim_laid Tryz.lays160 (by kernel_rfl) s ⟨#[32, 9]⟩ w hs (by decide) (ascii_of_all (by decide))
theorem sh_trimLeft (s : ByteArray) (w : World) :
    Calls Tryz.prog 177 #[.string s, .string ⟨#[35]⟩] w fun e w' => e = .returned (.string ⟨(Lib.trimLeftB s.data.toList 35).toArray⟩) ∧ w' = w :=
  Any.strings_TrimLeft_one Tryz.lays161 s 35 (by decide) w
theorem sh_split (s : ByteArray) (m : Int) (w : World) (hs : s.size < 4294967281) (hm : w.cell? ⟨6, 0, none⟩ = some (.int .i64 m)) :
    Calls Tryz.prog 109 #[.string s, .string ⟨#[10]⟩] w fun e w' =>
      e = .returned (.slice (some ⟨w.heap.size, 0, none⟩) (Lib.countB s ⟨#[10]⟩ + 1) (Lib.countB s ⟨#[10]⟩ + 1)) ∧ w' = w.alloc (.cells ((Lib.splitB ⟨#[10]⟩ 0 (Lib.countB s ⟨#[10]⟩) s).map Value.string).toArray 9) :=
  Any.strings_Split Tryz.lays146 (by kernel_rfl) s ⟨#[10]⟩ m w hs hm (by decide)

theorem rdrop_cons {α} (p : α → Bool) (x : α) (t : List α) : ((x :: t).reverse.dropWhile p).reverse = if (t.reverse.dropWhile p).reverse = [] then (if p x then [] else [x]) else x :: (t.reverse.dropWhile p).reverse := by
  rw [List.reverse_cons, List.dropWhile_append]
  cases h : t.reverse.dropWhile p with
  | nil =>
    cases hp : p x <;> simp [hp]
  | cons a b => simp
theorem drop_comm {α} (p : α → Bool) (l : List α) : ((l.reverse.dropWhile p).reverse).dropWhile p = ((l.dropWhile p).reverse.dropWhile p).reverse := by
  induction l with
  | nil => rfl
  | cons x t ih =>
    rw [rdrop_cons]
    cases hp : p x with
    | true =>
      rw [List.dropWhile_cons, if_pos hp, ← ih]
      by_cases h : (t.reverse.dropWhile p).reverse = []
      · rw [if_pos h, h]; simp
      · rw [if_neg h, List.dropWhile_cons, if_pos hp]
    | false =>
      have e : (x :: t).dropWhile p = x :: t := by rw [List.dropWhile_cons, hp]; rfl
      rw [e, rdrop_cons, hp]
      by_cases h : (t.reverse.dropWhile p).reverse = []
      · rw [if_pos h]; simp [hp]
      · rw [if_neg h, List.dropWhile_cons, hp]; rfl
theorem bl_contains (c : UInt8) : ([32, 9] : List UInt8).contains c = isBl c := by
  simp [isBl, List.contains, List.elem]
  cases h : (c == 32) <;> cases h2 : (c == 9) <;> simp_all
theorem trim_eq (l : List UInt8) : Lib.trimS l [32, 9] = trimL l := by
  unfold Lib.trimS Lib.trimLeftS Lib.trimRightS trimL
  rw [show (fun x => ([32, 9] : List UInt8).contains x) = isBl from funext bl_contains]
  exact drop_comm isBl l
theorem dropWhile_nil {α} (p : α → Bool) (l : List α) : (l.dropWhile p = []) ↔ l.all p = true := by
  induction l with
  | nil => simp
  | cons x t ih =>
    rw [List.dropWhile_cons]
    cases hp : p x with
    | true => rw [if_pos rfl, ih]; simp [hp]
    | false => simp [hp]
theorem all_dropWhile {α} (p : α → Bool) (l : List α) : (l.dropWhile p).all p = l.all p := by
  induction l with
  | nil => rfl
  | cons x t ih =>
    rw [List.dropWhile_cons]
    cases hp : p x with
    | true => rw [if_pos rfl, ih]; simp [hp]
    | false => simp [hp]
theorem trim_blank (l : List UInt8) : (trimL l = []) ↔ blankL l = true := by
  unfold trimL blankL
  rw [List.reverse_eq_nil_iff, dropWhile_nil, List.all_reverse, all_dropWhile]

end Go.Proofs.YtljcljipppjnoaaGreatDoor
