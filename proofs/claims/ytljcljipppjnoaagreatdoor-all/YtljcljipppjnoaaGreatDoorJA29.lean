import Derived.Test.YtljcljipppjnoaaGreatDoorJA02
import Derived.Shelf.Strings.IndexAnyAll
import Derived.Shelf.Strings.Replace
import Derived.Shelf.Small.Strs
namespace Go.Proofs.YtljcljipppjnoaaGreatDoor
open Go.RowKit Go.Shelf
def firstN (p:UInt8→Bool) (l:List UInt8):Nat:=(l.takeWhile fun x=>!p x).length
def firstZ (p:UInt8→Bool) (l:List UInt8):Int:=if firstN p l < l.length then (firstN p l:Int) else -1
theorem firstN_cons (p:UInt8→Bool) (b:UInt8) (l:List UInt8):firstN p (b :: l)=if p b then 0 else firstN p l+1:=by
  unfold firstN
  rw [List.takeWhile_cons]
  cases p b <;> simp
theorem firstN_le (p:UInt8→Bool) (l:List UInt8):firstN p l≤l.length:=(List.takeWhile_prefix _).length_le
theorem firstZ_cons (p:UInt8→Bool) (b:UInt8) (l:List UInt8):firstZ p (b :: l)=if p b then 0 else if firstZ p l == -1 then -1 else firstZ p l+1:=by
  unfold firstZ
  rw [firstN_cons,List.length_cons]
  cases p b with
  | true=>simp
  | false =>
    simp only [Bool.false_eq_true,if_false]
    by_cases h:firstN p l < l.length
    · rw [if_pos h,if_pos (by omega),if_neg (by rw [beq_iff_eq];omega)]
      omega
    · rw [if_neg h,if_neg (by omega)]
      rfl
theorem ib_first (l:List UInt8) (c:UInt8):Lib.indexByte l c=firstZ (fun x=>x == c) l:=by
  induction l with
  | nil=>rfl
  | cons b l ih=>rw [Lib.indexByte,firstZ_cons,ih]
theorem ia_first (l chars:List UInt8):Lib.indexAny l chars=firstZ (fun x=>chars.contains x) l:=by
  induction l with
  | nil=>rfl
  | cons b l ih=>rw [Lib.indexAny,firstZ_cons,ih]
theorem first_some {p:UInt8→Bool} {l:List UInt8} (h:firstN p l < l.length):∃ c,l[firstN p l]?=some c∧p c=true:=by
  induction l with
  | nil=>simp [firstN] at h
  | cons b l ih =>
    rw [firstN_cons] at h ⊢
    cases hb:p b with
    | true=>exact ⟨b,by simp,hb⟩
    | false =>
      rw [hb] at h
      simp only [Bool.false_eq_true,if_false,List.length_cons] at h ⊢
      obtain ⟨c,h1,h2⟩:=ih (by omega)
      exact ⟨c,by simpa using h1,h2⟩
theorem next_first (l:List UInt8) (c:UInt8) (k:Nat):nextAt l c k=k+firstN (fun x=>x == c) (l.drop k):=rfl
theorem stop_first (l:List UInt8) (k:Nat):stopAt l k=k+firstN endsL (l.drop k):=rfl
set_option maxRecDepth 100000 in
theorem signs_all:∀ n:Fin 256,([33,34,35,36,37,38,39,40,41,42,43,44,45,46,47,58,59,60,61,62,63,64,91,92,93,94,95,96,123,124,125,126]:List UInt8).contains (UInt8.ofNat n.val)=signN n.val:=by decide
theorem signs_any (c:UInt8):([33,34,35,36,37,38,39,40,41,42,43,44,45,46,47,58,59,60,61,62,63,64,91,92,93,94,95,96,123,124,125,126]:List UInt8).contains c=signS c:=by
  have:=signs_all ⟨c.toNat,c.toNat_lt⟩
  rw [signS,← this]
  simp
theorem marks_any (c:UInt8):([92,10,96,91,42]:List UInt8).contains c=isMark c:=by
  simp [isMark,List.contains,List.elem]
  cases h:(c == 92) <;> cases h2:(c == 10) <;> cases h3:(c == 96) <;> cases h4:(c == 91) <;> cases h5:(c == 42) <;> simp_all
theorem gaps_any (c:UInt8):([32,9,10]:List UInt8).contains c=bl3 c:=by
  simp [bl3,List.contains,List.elem]
  cases h:(c == 32) <;> cases h2:(c == 9) <;> cases h3:(c == 10) <;> simp_all
theorem ends_any (c:UInt8):([40,41,32,9,10]:List UInt8).contains c=endsL c:=by
  simp [endsL,List.contains,List.elem]
  cases h:(c == 40) <;> cases h2:(c == 41) <;> cases h3:(c == 32) <;> cases h4:(c == 9) <;> cases h5:(c == 10) <;> simp_all
theorem ends_of (c:UInt8):([91,93]:List UInt8).contains c=(c == 91 || c == 93):=by
  simp [List.contains,List.elem]
  cases h:(c == 91) <;> cases h2:(c == 93) <;> simp_all
theorem index_ten' (l:List UInt8):(Lib.index l [10]=-1∧∀ x ∈ l,x ≠ 10)∨∃ a b,l=a++10 :: b∧Lib.index l [10]=(a.length:Int)∧∀ x ∈ a,x ≠ 10:=by
  induction l with
  | nil=>exact Or.inl ⟨rfl,fun x hx=>by cases hx⟩
  | cons c r ih =>
    by_cases hc:c=10
    · subst hc
      exact Or.inr ⟨[],r,rfl,rfl,fun x hx=>by cases hx⟩
    · have hp:([10]:List UInt8).isPrefixOf (c :: r)=false:=by
        have:((10:UInt8) == c)=false:=by rw [beq_eq_false_iff_ne];exact fun h=>hc h.symm
        simp [List.isPrefixOf,this]
      rcases ih with ⟨h1,h2⟩ | ⟨a,b,h1,h2,h3⟩
      · refine Or.inl ⟨?_,fun x hx=>?_⟩
        · rw [Lib.index,hp,h1];rfl
        · rcases List.mem_cons.1 hx with rfl | hx
          · exact hc
          · exact h2 x hx
      · refine Or.inr ⟨c :: a,b,by rw [h1];rfl,?_,fun x hx=>?_⟩
        · rw [Lib.index,hp,h2]
          have:((a.length:Int) == -1)=false:=by rw [beq_eq_false_iff_ne];omega
          rw [this]
          simp
        · rcases List.mem_cons.1 hx with rfl | hx
          · exact hc
          · exact h3 x hx
theorem spaced_none (l:List UInt8) (h:∀ x ∈ l,x ≠ 10):spacedL l=l:=by
  unfold spacedL
  conv=>rhs;rw [← List.map_id l]
  apply List.map_congr_left
  intro x hx
  rw [if_neg (h x hx)]
  rfl
theorem spaced_some (a b:List UInt8) (h:∀ x ∈ a,x ≠ 10):spacedL (a++10 :: b)=a++32 :: spacedL b:=by
  have:=spaced_none a h
  unfold spacedL at this ⊢
  rw [List.map_append,this,List.map_cons,if_pos rfl]
theorem replaceK_spaced (l:List UInt8):Lib.replaceK [10] [32] (Lib.count l [10]) l=spacedL l:=by
  induction hm:l.length using Nat.strongRecOn generalizing l with
  | _ m ih =>
    rcases index_ten' l with ⟨h1,h2⟩ | ⟨a,b,h1,h2,h3⟩
    · rw [Lib.count_miss h1,spaced_none l h2]
      rfl
    · have hd:l.drop (a.length+1)=b:=by rw [h1];simp
      rw [Lib.count_hit (by decide) h2,List.length_singleton,hd,Nat.add_comm,Lib.replaceK_hit _ _ _ _ _ h2,List.length_singleton,hd,ih b.length (by rw [← hm,h1];simp;omega) b rfl]
      conv=>rhs;rw [h1]
      rw [spaced_some a b h3,h1]
      simp
theorem replace_spaced (l:List UInt8):Lib.replaceAll l [10] [32]=spacedL l:=by
  rw [Lib.replaceAll,Lib.replace,if_neg (by decide),Lib.replaceNum,if_pos (Or.inl (by decide))]
  exact replaceK_spaced l
end Go.Proofs.YtljcljipppjnoaaGreatDoor
