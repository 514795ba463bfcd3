import Derived.Test.YtljcljipppjnoaaGreatDoorDevPara
namespace Go.Proofs.YtljcljipppjnoaaGreatDoor
open Go.RowKit Go.Shelf

/-- What finding the blocks of a part does. -/
def EachC (q : Tel) (d : Int) (f : List (List UInt8) → List Ev) : Prop :=
  ∀ (acc : List Stp) (v : Value) (ls : List (List UInt8)) (a : Nat) (W : World), q.Told acc W → LinesV v ls W → (∀ g, v.ownBlock = some g → ¬ q.Own W g) → tot ls ≤ 1073741824 → a + ls.length ≤ 4294967296 → (acc.length : Int) + 16 * (ls.length : Int) + 4 * (4 - d) ≤ 1099511627776 →
    Calls Tryz.prog 83 #[.agg #[.func (.func q.kd) #[] #[.pointer (some ⟨q.bd, 0, none⟩)], .func (.func q.kl) #[] #[.pointer (some ⟨q.bl, 0, none⟩)]], .agg #[v, .int .i64 a, .int .i64 d]] W fun e w' => e = .returned (.tuple #[]) ∧ (∃ S, SpOk a (a + ls.length) S (f ls) ∧ q.Told (acc ++ S) w') ∧ Kt q none W.heap.size W w'

set_option maxRecDepth 100000 in
set_option maxHeartbeats 2000000 in
theorem inBlocks_any (q : Tel) (f : List (List UInt8) → List Ev) (d : Int) (hE : EachC q d f) (acc : List Stp) (bf bi a : Nat) (v : Value) (ls : List (List UInt8)) (W : World) (hT : q.Told acc W) (hL : LinesV v ls W) (hO : ∀ g, v.ownBlock = some g → ¬ q.Own W g) (hM : tot ls ≤ 1073741824) (ha : a + ls.length ≤ 4294967296) (hlen : (acc.length : Int) + 16 * (ls.length : Int) + 4 * (4 - d) ≤ 1099511627776)
    (h1 : W.heap[bf]? = some (.cells #[.func (.func q.kd) #[] #[.pointer (some ⟨q.bd, 0, none⟩)], .func (.func q.kl) #[] #[.pointer (some ⟨q.bl, 0, none⟩)]] 159 (0, 0))) (h2 : W.heap[bi]? = some (.cells #[v, .int .i64 a, .int .i64 d] 162 (0, 0))) :
    Calls Tryz.prog 182 #[.pointer (some ⟨bf, 0, none⟩), .pointer (some ⟨bi, 0, none⟩)] W fun e w' => e = .returned (.tuple #[]) ∧ (∃ S, SpOk a (a + ls.length) S (f ls) ∧ q.Told (acc ++ S) w') ∧ Kt q none W.heap.size W w' := by
  obtain ⟨c1, c2⟩ := cells2 h1
  obtain ⟨c3, c4, c5⟩ := cells3 h2
  have hc := hE acc v ls a W hT hL hO hM ha hlen
  clear hE hT hO h1 h2
  rcases hL with ⟨rfl, rfl⟩ | ⟨g, o, cap, rfl, hS⟩
  all_goals
    go_enter Tryz.func182, Tryz.ntmps182
    go_wp2_with (go_at_call 83; refine hc.mono ?_; rintro e w1 ⟨rfl, ⟨S, hS1, T1⟩, K1⟩)
    go_end0
    exact ⟨rfl, ⟨S, hS1, T1⟩, K1⟩

set_option maxRecDepth 100000 in
set_option maxHeartbeats 2000000 in
theorem withBlocks_any (q : Tel) (hq : q.Ok) (f : List (List UInt8) → List Ev) (d : Int) (hE : EachC q d f) (kind : Int) (acc : List Stp) (a : Nat) (v : Value) (ls : List (List UInt8)) (W : World) (hfl : (f ls).length ≤ 16 * ls.length) (hT : q.Told acc W) (hL : LinesV v ls W) (hO : ∀ g, v.ownBlock = some g → ¬ q.Own W g) (hM : tot ls ≤ 1073741824) (ha : a + ls.length ≤ 4294967296) (hlen : (acc.length : Int) + 1 + 16 * (ls.length : Int) + 4 * (4 - d) ≤ 1099511627776) (hd : d ≤ 4) :
    Calls Tryz.prog 157 #[.agg #[.func (.func q.kd) #[] #[.pointer (some ⟨q.bd, 0, none⟩)], .func (.func q.kl) #[] #[.pointer (some ⟨q.bl, 0, none⟩)]], .int .i64 kind, .agg #[v, .int .i64 a, .int .i64 d]] W fun e w' => e = .returned (.tuple #[]) ∧ (∃ S, SpOk a (a + ls.length) S (f ls) ∧ q.Told (acc ++ ([.ev ⟨kind, false, 0, []⟩] ++ S ++ [.ev ⟨kind, true, 0, []⟩])) w') ∧ Kt q none W.heap.size W w' := by
  have hmf : ∀ (fn : Fn) (first cap : Array Value) (w : World), (Instr.makeFunc fn first cap).run Tryz.prog w = .ok (.func fn first cap) w := fun _ _ _ _ => rfl
  obtain ⟨W2, hW2⟩ : ∃ W2, ((W.alloc (.cells #[.func (.func q.kd) #[] #[.pointer (some ⟨q.bd, 0, none⟩)], .func (.func q.kl) #[] #[.pointer (some ⟨q.bl, 0, none⟩)]] 159)).alloc (.cells #[v, .int .i64 a, .int .i64 d] 162)) = W2 := ⟨_, rfl⟩
  have z2 : W2.heap.size = W.heap.size + 1 + 1 := by rw [← hW2]; simp
  obtain ⟨x1, x2, x3⟩ := Obj.fi q v (.int .i64 a) (.int .i64 d) W W2 (by rw [hW2, ← z2]; exact Below.refl _ _)
  have hc := twithin_any q hq none acc (fun S => SpOk a (a + ls.length) S (f ls)) (16 * ls.length) (fun S hS => by rw [hS.len]; exact hfl) ⟨kind, false, 0, []⟩ 182 #[.pointer (some ⟨W.heap.size, 0, none⟩), .pointer (some ⟨W.heap.size + 1, 0, none⟩)] W2 (fun _ => True) (enters_of Tryz.func182 (by kernel_rfl) rfl) (hq.below hT x3) (by omega) (fun g' hg' => by cases hg')
    (fun W' hT' hK' => by
      have hnew : ∀ b, W.heap.size ≤ b → ¬ q.Own W2 b := fun b hb => hq.new hT x3 hb
      have hL2 : LinesV v ls W' := by
        rcases hL with h | ⟨g, o, cap, rfl, hS⟩
        · exact Or.inl h
        · exact Or.inr ⟨g, o, cap, rfl, (hS.below x3 hS.lt).kept hK' (by have := hS.lt; omega) (by simp) (hq.off hT x3 (hO g rfl))⟩
      refine (inBlocks_any q f d hE (acc ++ [.ev ⟨kind, false, 0, []⟩]) W.heap.size (W.heap.size + 1) a v ls W' hT' hL2 ?_ hM ha (by rw [List.length_append, List.length_singleton]; omega) ((hK'.block _ (by omega) (by simp) (hnew _ (by omega))).trans x1) ((hK'.block _ (by omega) (by simp) (hnew _ (by omega))).trans x2)).mono ?_
      · intro g hg
        rcases hL with ⟨_, rfl⟩ | ⟨g', o, cap, rfl, hS⟩
        · cases hg
        · injection hg with hg
          subst hg
          exact hK'.off (by have := hS.lt; show g' < _; omega) (hq.off hT x3 (hO g' rfl))
      · rintro e w' ⟨rfl, ⟨S, h1, h2⟩, h3⟩
        exact ⟨rfl, S, h1, h2, h3, trivial⟩)
    (fun _ _ _ _ => trivial)
  have hc2 : Calls Tryz.prog 152 #[.agg #[.int .i64 kind, .bool false, .int .i64 0, .string ⟨#[]⟩], .func (.func q.kd) #[] #[.pointer (some ⟨q.bd, 0, none⟩)], .func (.func 182) #[] #[.pointer (some ⟨W.heap.size, 0, none⟩), .pointer (some ⟨W.heap.size + 1, 0, none⟩)]] W2 fun e w' => e = .returned (.tuple #[]) ∧ (∃ S, SpOk a (a + ls.length) S (f ls) ∧ q.Told (acc ++ ([.ev ⟨kind, false, 0, []⟩] ++ S ++ [.ev ⟨kind, true, 0, []⟩])) w') ∧ Kt q none W.heap.size W w' := by
    refine hc.mono ?_
    rintro e w' ⟨rfl, S, h1, h2, h3, _⟩
    exact ⟨rfl, ⟨S, h1, h2⟩, (hq.kt hT x3).trans (h3.mono (by omega))⟩
  obtain ⟨k1, k2⟩ := cells2 x1
  obtain ⟨k3, k4, k5⟩ := cells3 x2
  clear hc hT hq x1 x2 x3 hE hO
  rcases hL with ⟨rfl, rfl⟩ | ⟨g, o, cap, rfl, hS⟩
  all_goals
    go_enter Tryz.func157, Tryz.ntmps157
    go_wp2_with (go_at_call 152; refine hc2.mono ?_; rintro e w1 ⟨rfl, T1, K1⟩)
    go_end0
    exact ⟨rfl, T1, K1⟩

end Go.Proofs.YtljcljipppjnoaaGreatDoor
