import Derived.Test.YtljcljipppjnoaaGreatDoorJA05
import Derived.Test.YtljcljipppjnoaaGreatDoorJA19
import Derived.Test.YtljcljipppjnoaaGreatDoorJA20
namespace Go.Proofs.YtljcljipppjnoaaGreatDoor
open Go.RowKit Go.Shelf
theorem sh_prefix (s p:ByteArray) (w:World) :
    Calls Tryz.prog 176 #[.string s,.string p] w fun e w'=>e=.returned (.bool (beginsS s p))∧w'=w:=Any.strings_HasPrefix Tryz.lays99 s p w
theorem sh_trimPrefix (s p:ByteArray) (w:World) :
    Calls Tryz.prog 181 #[.string s,.string p] w fun e w'=>e=.returned (.string ⟨(Lib.trimPrefix s.data.toList p.data.toList).toArray⟩)∧w'=w:=Any.strings_TrimPrefix Tryz.lays101 s p w
theorem sh_trim (s:ByteArray) (w:World) (hs:s.size≤9223372036854775807) :
    Calls Tryz.prog 175 #[.string s,.string ⟨#[32,9]⟩] w fun e w'=>e=.returned (.string ⟨(Lib.trimS s.data.toList [32,9]).toArray⟩)∧Below w.heap.size w w' :=
  Any.strings_Trim_laid Tryz.lays160 (by kernel_rfl) s ⟨#[32,9]⟩ w hs (by decide) (ascii_of_all (by decide))
theorem sh_trimLeft (s:ByteArray) (w:World) :
    Calls Tryz.prog 177 #[.string s,.string ⟨#[35]⟩] w fun e w'=>e=.returned (.string ⟨(Lib.trimLeftB s.data.toList 35).toArray⟩)∧w'=w :=
  Any.strings_TrimLeft_one Tryz.lays161 s 35 (by decide) w
theorem sh_split (s:ByteArray) (m:Int) (w:World) (hs:s.size < 4294967281) (hm:w.cell? ⟨6,0,none⟩=some (.int .i64 m)) :
    Calls Tryz.prog 109 #[.string s,.string ⟨#[10]⟩] w fun e w' =>
      e=.returned (.slice (some ⟨w.heap.size,0,none⟩) (Lib.countB s ⟨#[10]⟩+1) (Lib.countB s ⟨#[10]⟩+1))∧w'=w.alloc (.cells ((Lib.splitB ⟨#[10]⟩ 0 (Lib.countB s ⟨#[10]⟩) s).map Value.string).toArray 9) :=
  Any.strings_Split Tryz.lays146 (by kernel_rfl) s ⟨#[10]⟩ m w hs hm (by decide)
theorem rdrop_cons {α} (p:α→Bool) (x:α) (t:List α):((x :: t).reverse.dropWhile p).reverse=if (t.reverse.dropWhile p).reverse=[] then (if p x then [] else [x]) else x :: (t.reverse.dropWhile p).reverse:=by
  rw [List.reverse_cons,List.dropWhile_append]
  cases h:t.reverse.dropWhile p with
  | nil =>
    cases hp:p x <;> simp [hp]
  | cons a b=>simp
theorem drop_comm {α} (p:α→Bool) (l:List α):((l.reverse.dropWhile p).reverse).dropWhile p=((l.dropWhile p).reverse.dropWhile p).reverse:=by
  induction l with
  | nil=>rfl
  | cons x t ih =>
    rw [rdrop_cons]
    cases hp:p x with
    | true =>
      rw [List.dropWhile_cons,if_pos hp,← ih]
      by_cases h:(t.reverse.dropWhile p).reverse=[]
      · rw [if_pos h,h];simp
      · rw [if_neg h,List.dropWhile_cons,if_pos hp]
    | false =>
      have e:(x :: t).dropWhile p=x :: t:=by rw [List.dropWhile_cons,hp];rfl
      rw [e,rdrop_cons,hp]
      by_cases h:(t.reverse.dropWhile p).reverse=[]
      · rw [if_pos h];simp [hp]
      · rw [if_neg h,List.dropWhile_cons,hp];rfl
theorem bl_contains (c:UInt8):([32,9]:List UInt8).contains c=isBl c:=by
  simp [isBl,List.contains,List.elem]
  cases h:(c == 32) <;> cases h2:(c == 9) <;> simp_all
theorem trim_eq (l:List UInt8):Lib.trimS l [32,9]=trimL l:=by
  unfold Lib.trimS Lib.trimLeftS Lib.trimRightS trimL
  rw [show (fun x=>([32,9]:List UInt8).contains x)=isBl from funext bl_contains]
  exact drop_comm isBl l
theorem dropWhile_nil {α} (p:α→Bool) (l:List α):(l.dropWhile p=[]) ↔ l.all p=true:=by
  induction l with
  | nil=>simp
  | cons x t ih =>
    rw [List.dropWhile_cons]
    cases hp:p x with
    | true=>rw [if_pos rfl,ih];simp [hp]
    | false=>simp [hp]
theorem all_dropWhile {α} (p:α→Bool) (l:List α):(l.dropWhile p).all p=l.all p:=by
  induction l with
  | nil=>rfl
  | cons x t ih =>
    rw [List.dropWhile_cons]
    cases hp:p x with
    | true=>rw [if_pos rfl,ih];simp [hp]
    | false=>simp [hp]
theorem trim_blank (l:List UInt8):(trimL l=[]) ↔ blankL l=true:=by
  unfold trimL blankL
  rw [List.reverse_eq_nil_iff,dropWhile_nil,List.all_reverse,all_dropWhile]
end Go.Proofs.YtljcljipppjnoaaGreatDoor
namespace Go.Proofs.YtljcljipppjnoaaGreatDoor
open Go.RowKit Go.Shelf
theorem dtrim_any (s:ByteArray) (w:World) (hs:s.size≤4611686018427387904) :
    Calls Tryz.prog 146 #[.string s] w fun e w'=>e=.returned (.string (trimS s))∧Below w.heap.size w w':=by
  have c:=sh_trim s w (by omega)
  have HT:Hid (trimS s=⟨(Lib.trimS s.data.toList [32,9]).toArray⟩):=by show _=_;rw [trim_eq];rfl
  generalize Lib.trimS s.data.toList [32,9]=t at c HT
  go_enter Tryz.func146,Tryz.ntmps146
  go_wp2_with (go_at_call 175;refine c.mono ?_;rintro e w1 ⟨rfl,b1⟩)
  go_ret
  rw [HT.out]
  exact ⟨rfl,b1⟩
theorem blankS_trim (s:ByteArray):(trimS s).toList.isEmpty=blankS s:=by
  rw [list_of]
  have:=trim_blank s.data.toList
  have e:blankS s=blankL s.data.toList:=rfl
  rw [e]
  show (trimL s.data.toList).isEmpty=_
  rw [Bool.eq_iff_iff,List.isEmpty_iff,this]
theorem dblank_any (s:ByteArray) (w:World) (hs:s.size≤4611686018427387904) :
    Calls Tryz.prog 127 #[.string s] w fun e w'=>e=.returned (.bool (blankS s))∧Below w.heap.size w w':=by
  have c:=dtrim_any s w hs
  have HT:Hid ((trimS s).toList.isEmpty=blankS s):=blankS_trim s
  generalize trimS s=t at c HT
  go_enter Tryz.func127,Tryz.ntmps127
  go_wp2_with (go_at_call 146;refine c.mono ?_;rintro e w1 ⟨rfl,b1⟩)
  go_ret
  exact ⟨by rw [← HT.out];rfl,b1⟩
theorem dfence_any (s:ByteArray) (w:World) :
    Calls Tryz.prog 147 #[.string s] w fun e w'=>e=.returned (.bool (beginsS s ⟨#[96,96,96]⟩))∧w'=w:=by
  have c:=sh_prefix s ⟨#[96,96,96]⟩ w
  generalize beginsS s ⟨#[96,96,96]⟩=b at c
  go_enter Tryz.func147,Tryz.ntmps147
  go_wp2_with (go_at_call 176;refine c.mono ?_;rintro e w1 ⟨rfl,hw⟩;rw [hw];clear hw)
  go_ret
  exact ⟨rfl,rfl⟩
theorem dquoted_any (s:ByteArray) (w:World) :
    Calls Tryz.prog 149 #[.string s] w fun e w'=>e=.returned (.bool (beginsS s ⟨#[62]⟩))∧w'=w:=by
  have c:=sh_prefix s ⟨#[62]⟩ w
  generalize beginsS s ⟨#[62]⟩=b at c
  go_enter Tryz.func149,Tryz.ntmps149
  go_wp2_with (go_at_call 176;refine c.mono ?_;rintro e w1 ⟨rfl,hw⟩;rw [hw];clear hw)
  go_ret
  exact ⟨rfl,rfl⟩
theorem dind_any (s:ByteArray) (w:World) :
    Calls Tryz.prog 184 #[.string s] w fun e w'=>e=.returned (.bool (beginsS s ⟨#[32,32]⟩))∧w'=w:=by
  have c:=sh_prefix s ⟨#[32,32]⟩ w
  generalize beginsS s ⟨#[32,32]⟩=b at c
  go_enter Tryz.func184,Tryz.ntmps184
  go_wp2_with (go_at_call 176;refine c.mono ?_;rintro e w1 ⟨rfl,hw⟩;rw [hw];clear hw)
  go_ret
  exact ⟨rfl,rfl⟩
theorem trimPrefix_at (s p:ByteArray) (h:beginsS s p=true):Lib.trimPrefix s.data.toList p.data.toList=s.data.toList.drop p.size:=by
  unfold Lib.trimPrefix
  rw [if_pos (show Lib.hasPrefix s.data.toList p.data.toList=true from h),Lib.size_eq]
theorem dunind_any (s:ByteArray) (w:World) (h:beginsS s ⟨#[32,32]⟩=true) :
    Calls Tryz.prog 185 #[.string s] w fun e w'=>e=.returned (.string ⟨(s.data.toList.drop 2).toArray⟩)∧w'=w:=by
  have c:=sh_trimPrefix s ⟨#[32,32]⟩ w
  rw [trimPrefix_at s _ h] at c
  have e2:(⟨#[32,32]⟩:ByteArray).size=2:=rfl
  rw [e2] at c
  generalize s.data.toList.drop 2=t at c
  clear h e2
  go_enter Tryz.func185,Tryz.ntmps185
  go_wp2_with (go_at_call 181;refine c.mono ?_;rintro e w1 ⟨rfl,hw⟩;rw [hw];clear hw)
  go_ret
  exact ⟨rfl,rfl⟩
theorem unq1_eq (l:List UInt8):Lib.trimPrefix l [32]=unq1 l:=by
  cases l with
  | nil=>rfl
  | cons c r =>
    unfold Lib.trimPrefix Lib.hasPrefix unq1
    simp only [List.isPrefixOf,Bool.and_true]
    by_cases h:c=32
    · subst h;rfl
    · have h1:((32:UInt8) == c)=false:=by rw [beq_eq_false_iff_ne];exact fun h'=>h h'.symm
      have h2:(c == 32)=false:=by rw [beq_eq_false_iff_ne];exact h
      rw [h1,h2]
      rfl
theorem dunq_any (s:ByteArray) (w:World) (h:beginsS s ⟨#[62]⟩=true) :
    Calls Tryz.prog 156 #[.string s] w fun e w'=>e=.returned (.string ⟨(unq s.data.toList).toArray⟩)∧w'=w:=by
  have c:=sh_trimPrefix s ⟨#[62]⟩ w
  rw [trimPrefix_at s _ h] at c
  have e2:(⟨#[62]⟩:ByteArray).size=1:=rfl
  rw [e2] at c
  have c2:=sh_trimPrefix ⟨(s.data.toList.drop 1).toArray⟩ ⟨#[32]⟩ w
  have e3:Lib.trimPrefix (⟨(s.data.toList.drop 1).toArray⟩:ByteArray).data.toList (⟨#[32]⟩:ByteArray).data.toList=unq s.data.toList:=unq1_eq _
  rw [e3] at c2
  generalize s.data.toList.drop 1=t at c c2
  generalize unq s.data.toList=t2 at c2
  clear h e2 e3
  go_enter Tryz.func156,Tryz.ntmps156
  go_wp2_with (first | (go_at_call_of 181 (Value.string { data:=#[62] });refine c.mono ?_;rintro e w1 ⟨rfl,hw⟩;rw [hw];clear hw) | (go_at_call_of 181 (Value.string { data:=#[32] });refine c2.mono ?_;rintro e w1 ⟨rfl,hw⟩;rw [hw];clear hw))
  go_ret
  exact ⟨rfl,rfl⟩
def endsB:List UInt8→Bool
  | []=>true
  | c :: _=>isBl c
theorem dends_any (s:ByteArray) (w:World) :
    Calls Tryz.prog 178 #[.string s] w fun e w'=>e=.returned (.bool (endsB s.data.toList))∧w'=w:=by
  by_cases h0:0 < s.size
  · have HB:Hid (endsB s.data.toList=(((s[0].toNat:Int) == 32) || ((s[0].toNat:Int) == 9))):=by
      show _=_
      rw [ext_tail s h0,← u8_bl]
      rfl
    have hne:(s.toList == [])=false:=by
      rw [list_of,ext_tail s h0]
      rfl
    cases k1:((s[0].toNat:Int) == 32) with
    | true =>
      rw [k1] at HB
      go_enter Tryz.func178,Tryz.ntmps178
      go_wp2
      go_ret
      exact ⟨by rw [HB.out];rfl,rfl⟩
    | false =>
      rw [k1] at HB
      generalize hb:((s[0].toNat:Int) == 9)=b at HB
      go_enter Tryz.func178,Tryz.ntmps178
      go_wp2
      go_ret
      exact ⟨by rw [HB.out];rfl,rfl⟩
  · have hnil:s.data.toList=[]:=by
      rw [← List.length_eq_zero_iff,Array.length_toList]
      show s.size=0
      omega
    have hne:(s.toList == [])=true:=by rw [list_of,hnil];rfl
    have HB:Hid (endsB s.data.toList=true):=by show _=_;rw [hnil];rfl
    clear hnil
    go_enter Tryz.func178,Tryz.ntmps178
    go_wp2
    go_ret
    exact ⟨by rw [HB.out];rfl,rfl⟩
end Go.Proofs.YtljcljipppjnoaaGreatDoor
namespace Go.Proofs.YtljcljipppjnoaaGreatDoor
open Go.RowKit Go.Shelf
theorem begins_le (s p:ByteArray) (h:beginsS s p=true):p.size≤s.size:=by
  by_cases h2:p.size≤s.size
  · exact h2
  · rw [begins_short s p h2] at h
    exact absurd h (by decide)
theorem ba_drop (s:ByteArray) (k:Nat):s.extract k s.size=⟨(s.data.toList.drop k).toArray⟩:=by
  apply ByteArray.ext
  apply Array.ext'
  rw [Lib.extract_data,List.take_of_length_le]
  rw [List.length_drop,Array.length_toList]
  exact Nat.le_refl _
set_option maxHeartbeats 1000000 in
theorem dcutin_any (s p:ByteArray) (w:World) :
    Calls Tryz.prog 210 #[.string s,.string p] w fun e w'=>e=.returned (.tuple #[.string (if beginsS s p=true then ⟨(s.data.toList.drop p.size).toArray⟩ else s),.bool (beginsS s p)])∧w'=w:=by
  have c:=fun W=>Any.stringslite_HasPrefix { Tryz.lays99 with } s p W
  replace c:∀ W,Calls Tryz.prog 209 #[.string s,.string p] W fun e w'=>e=.returned (.bool (beginsS s p))∧w'=W:=c
  have hle:=begins_le s p
  have HD:Hid (s.extract p.size s.size=⟨(s.data.toList.drop p.size).toArray⟩):=ba_drop s p.size
  cases hb:beginsS s p with
  | true =>
    rw [hb] at c
    have h1:=hle hb
    clear hb hle
    go_enter Tryz.func210,Tryz.ntmps210
    go_wp2_with (go_at_call 209;refine (c _).mono ?_;rintro e w1 ⟨rfl,hw⟩;rw [hw];clear hw)
    go_ret2
    refine ⟨?_,rfl⟩
    rw [← HD.out]
    rfl
  | false =>
    rw [hb] at c
    clear hb hle
    go_enter Tryz.func210,Tryz.ntmps210
    go_wp2_with (go_at_call 209;refine (c _).mono ?_;rintro e w1 ⟨rfl,hw⟩;rw [hw];clear hw)
    go_ret2
    exact ⟨rfl,rfl⟩
theorem dcut_any (s p:ByteArray) (w:World) :
    Calls Tryz.prog 179 #[.string s,.string p] w fun e w'=>e=.returned (.tuple #[.string (if beginsS s p=true then ⟨(s.data.toList.drop p.size).toArray⟩ else s),.bool (beginsS s p)])∧w'=w:=by
  have c:=fun W=>dcutin_any s p W
  generalize (if beginsS s p=true then (⟨(s.data.toList.drop p.size).toArray⟩:ByteArray) else s)=t at c
  generalize beginsS s p=b at c
  go_enter Tryz.func179,Tryz.ntmps179
  go_wp2_with (go_at_call 210;refine (c _).mono ?_;rintro e w1 ⟨rfl,hw⟩;rw [hw];clear hw)
  go_ret2
  exact ⟨rfl,rfl⟩
theorem item_eq (s:ByteArray):itemS s=(beginsS s ⟨#[45]⟩ && endsB (s.data.toList.drop 1)):=by
  unfold itemS beginsS
  rw [list_of]
  cases hl:s.data.toList with
  | nil=>rfl
  | cons c r =>
    by_cases h:c=45
    · subst h
      cases r with
      | nil=>rfl
      | cons d t =>
        simp only [List.isPrefixOf,List.drop_succ_cons,List.drop_zero,endsB,isBl]
        have e1:((45:UInt8) :: d :: t == [45])=false:=by rw [beq_eq_false_iff_ne];simp
        rw [e1]
        by_cases h32:d=32
        · subst h32;rfl
        · by_cases h9:d=9
          · subst h9;rfl
          · have a1:((32:UInt8) == d)=false:=by rw [beq_eq_false_iff_ne];exact fun h'=>h32 h'.symm
            have a2:((9:UInt8) == d)=false:=by rw [beq_eq_false_iff_ne];exact fun h'=>h9 h'.symm
            have a3:(d == 32)=false:=by rw [beq_eq_false_iff_ne];exact h32
            have a4:(d == 9)=false:=by rw [beq_eq_false_iff_ne];exact h9
            rw [a1,a2,a3,a4]
            rfl
    · have a1:((45:UInt8) == c)=false:=by rw [beq_eq_false_iff_ne];exact fun h'=>h h'.symm
      have e1:(c :: r == [(45:UInt8)])=false:=by rw [beq_eq_false_iff_ne];intro h';injection h' with h1 h2;exact h h1
      simp only [List.isPrefixOf,e1,a1,Bool.false_and,Bool.or_self]
theorem ditem_any (s:ByteArray) (w:World) :
    Calls Tryz.prog 150 #[.string s] w fun e w'=>e=.returned (.bool (itemS s))∧w'=w:=by
  have c:=fun W=>dcut_any s ⟨#[45]⟩ W
  have HI:Hid (itemS s=(beginsS s ⟨#[45]⟩ && endsB (s.data.toList.drop 1))):=item_eq s
  have e1:(⟨#[45]⟩:ByteArray).size=1:=rfl
  rw [e1] at c
  cases hb:beginsS s ⟨#[45]⟩ with
  | true =>
    rw [hb] at c HI
    simp only [if_true] at c
    have c2:=fun W=>dends_any ⟨(s.data.toList.drop 1).toArray⟩ W
    have e2:endsB (⟨(s.data.toList.drop 1).toArray⟩:ByteArray).data.toList=endsB (s.data.toList.drop 1):=rfl
    rw [e2] at c2
    generalize endsB (s.data.toList.drop 1)=b2 at c2 HI
    generalize s.data.toList.drop 1=t at c c2
    clear hb e1 e2
    go_enter Tryz.func150,Tryz.ntmps150
    go_wp2_with (first | (go_at_call 179;refine (c _).mono ?_;rintro e w1 ⟨rfl,hw⟩;rw [hw];clear hw) | (go_at_call 178;refine (c2 _).mono ?_;rintro e w1 ⟨rfl,hw⟩;rw [hw];clear hw))
    go_ret
    exact ⟨by rw [HI.out];rfl,rfl⟩
  | false =>
    rw [hb] at c HI
    simp only [Bool.false_eq_true,if_false] at c
    clear hb e1
    go_enter Tryz.func150,Tryz.ntmps150
    go_wp2_with (go_at_call 179;refine (c _).mono ?_;rintro e w1 ⟨rfl,hw⟩;rw [hw];clear hw)
    go_ret
    exact ⟨by rw [HI.out];rfl,rfl⟩
theorem dfenceEnd_any (s:ByteArray) (w:World) (hs:s.size≤4611686018427387904) :
    Calls Tryz.prog 151 #[.string s] w fun e w'=>e=.returned (.bool (shuts s.data.toList))∧Below w.heap.size w w':=by
  have c:=fun W=>dcut_any s ⟨#[96,96,96]⟩ W
  have HI:Hid (shuts s.data.toList=(beginsS s ⟨#[96,96,96]⟩ && blankL (s.data.toList.drop 3))):=by show _=_;rfl
  have e1:(⟨#[96,96,96]⟩:ByteArray).size=3:=rfl
  rw [e1] at c
  cases hb:beginsS s ⟨#[96,96,96]⟩ with
  | true =>
    rw [hb] at c HI
    simp only [if_true] at c
    have c2:=fun W=>dblank_any ⟨(s.data.toList.drop 3).toArray⟩ W (by rw [size_of,List.length_drop,Array.length_toList];have:s.data.size=s.size:=rfl;omega)
    have e2:blankS ⟨(s.data.toList.drop 3).toArray⟩=blankL (s.data.toList.drop 3):=rfl
    rw [e2] at c2
    generalize blankL (s.data.toList.drop 3)=b2 at c2 HI
    generalize s.data.toList.drop 3=t at c c2
    clear hb e1 e2
    go_enter Tryz.func151,Tryz.ntmps151
    go_wp2_with (first | (go_at_call 179;refine (c _).mono ?_;rintro e w1 ⟨rfl,hw⟩;rw [hw];clear hw) | (go_at_call 127;refine (c2 _).mono ?_;rintro e w1 ⟨rfl,b1⟩))
    go_ret
    exact ⟨by rw [HI.out];rfl,b1⟩
  | false =>
    rw [hb] at c HI
    simp only [Bool.false_eq_true,if_false] at c
    clear hb e1
    go_enter Tryz.func151,Tryz.ntmps151
    go_wp2_with (go_at_call 179;refine (c _).mono ?_;rintro e w1 ⟨rfl,hw⟩;rw [hw];clear hw)
    go_ret
    exact ⟨by rw [HI.out];rfl,Below.refl _ _⟩
theorem dunm_any (s:ByteArray) (w:World) (h:beginsS s ⟨#[45]⟩=true) (hs:s.size≤4611686018427387904) :
    Calls Tryz.prog 183 #[.string s] w fun e w'=>e=.returned (.string ⟨(s.data.toList.drop 2).toArray⟩)∧w'=w:=by
  have c:=fun W=>sh_trimPrefix s ⟨#[45]⟩ W
  rw [trimPrefix_at s _ h] at c
  have e1:(⟨#[45]⟩:ByteArray).size=1:=rfl
  rw [e1] at c
  obtain ⟨t,ht⟩:∃ t:ByteArray,⟨(s.data.toList.drop 1).toArray⟩=t:=⟨_,rfl⟩
  rw [ht] at c
  have hts:t.size≤4611686018427387904:=by
    rw [← ht,size_of,List.length_drop,Array.length_toList]
    have:s.data.size=s.size:=rfl
    omega
  have ht2:s.data.toList.drop 2=t.data.toList.drop 1:=by
    rw [← ht]
    simp
  rw [ht2]
  have HD:Hid (t.extract 1 t.size=⟨(t.data.toList.drop 1).toArray⟩):=ba_drop t 1
  clear h e1 ht ht2
  by_cases h0:0 < t.size
  · have hm:min (1:Int) (t.size:Int)=1:=by omega
    go_enter Tryz.func183,Tryz.ntmps183
    go_wp2_with (go_at_call 181;refine (c _).mono ?_;rintro e w1 ⟨rfl,hw⟩;rw [hw];clear hw)
    go_ret
    rw [← HD.out]
    exact ⟨rfl,rfl⟩
  · have hm:t.size=0:=by omega
    have HN:Hid ((⟨(t.data.toList.drop 1).toArray⟩:ByteArray)=t):=by
      show _=_
      have:t.data.toList=[]:=by
        rw [← List.length_eq_zero_iff,Array.length_toList]
        exact hm
      apply ByteArray.ext
      apply Array.ext'
      rw [this]
      rfl
    have HE:Hid (t.extract (min (1:Int) 0).toNat 0=t):=by
      show _=_
      have:t.data.toList=[]:=by
        rw [← List.length_eq_zero_iff,Array.length_toList]
        exact hm
      apply ByteArray.ext
      apply Array.ext'
      rw [Lib.extract_data,this]
      rfl
    go_enter Tryz.func183,Tryz.ntmps183
    go_wp2_with (go_at_call 181;refine (c _).mono ?_;rintro e w1 ⟨rfl,hw⟩;rw [hw];clear hw)
    go_ret
    rw [HN.out]
    exact ⟨congrArg (fun x=>Ending.returned (.string x)) HE.out,rfl⟩
end Go.Proofs.YtljcljipppjnoaaGreatDoor
namespace Go.Proofs.YtljcljipppjnoaaGreatDoor
open Go.RowKit Go.Shelf
theorem hashes_drop (l:List UInt8):l.dropWhile (· == 35)=l.drop (hashes l):=by
  unfold hashes
  induction l with
  | nil=>rfl
  | cons c r ih =>
    cases h:(c == 35) with
    | true=>rw [List.dropWhile_cons,List.takeWhile_cons,h];simp [ih]
    | false=>rw [List.dropWhile_cons,List.takeWhile_cons,h];rfl
theorem ends_at (l:List UInt8) (k:Nat):endsB (l.drop k)=!decide ((l[k]?).map isBl=some false):=by
  by_cases h:k < l.length
  · have e:(l[k]?).map isBl=some (isBl l[k]):=by rw [List.getElem?_eq_getElem h];rfl
    rw [List.drop_eq_getElem_cons h]
    simp only [e,endsB]
    generalize isBl l[k]=b
    cases b <;> rfl
  · rw [List.drop_eq_nil_iff.2 (by omega),List.getElem?_eq_none (by omega)]
    rfl
set_option maxHeartbeats 1000000 in
theorem dlevel_any (s:ByteArray) (w:World) (hs:s.size≤4611686018427387904) :
    Calls Tryz.prog 148 #[.string s] w fun e w'=>e=.returned (.int .i64 (levelS s))∧w'=w:=by
  have c:=fun W=>sh_trimLeft s W
  have e1:Lib.trimLeftB s.data.toList 35=s.data.toList.drop (hashes s.data.toList):=hashes_drop _
  rw [e1] at c
  have c2:=fun W=>dends_any ⟨(s.data.toList.drop (hashes s.data.toList)).toArray⟩ W
  have e2:endsB (⟨(s.data.toList.drop (hashes s.data.toList)).toArray⟩:ByteArray).data.toList=endsB (s.data.toList.drop (hashes s.data.toList)):=rfl
  rw [e2] at c2
  have hk:hashes s.data.toList≤s.size:=by
    have h:hashes s.data.toList≤s.data.toList.length:=(List.takeWhile_sublist (l:=s.data.toList) _).length_le
    rw [Array.length_toList] at h
    exact h
  have hz:(⟨(s.data.toList.drop (hashes s.data.toList)).toArray⟩:ByteArray).size=s.size - hashes s.data.toList:=by
    rw [size_of,List.length_drop,Array.length_toList]
    rfl
  have HL:Hid (levelS s=if hashes s.data.toList < 1∨3 < hashes s.data.toList∨endsB (s.data.toList.drop (hashes s.data.toList))=false then 0 else hashes s.data.toList):=by
    show _=_
    unfold levelS
    rw [ends_at]
    congr 1
    simp
  generalize hb:endsB (s.data.toList.drop (hashes s.data.toList))=b at c2 HL
  generalize (⟨(s.data.toList.drop (hashes s.data.toList)).toArray⟩:ByteArray)=t at c c2 hz
  generalize hashes s.data.toList=n at hk hz HL
  clear e1 e2 hb
  by_cases h3:3 < n
  · have HR:Hid (levelS s=0):=by show _=_;rw [HL.out,if_pos (Or.inr (Or.inl h3))]
    go_enter Tryz.func148,Tryz.ntmps148
    go_wp2_with (go_at_call 177;refine (c _).mono ?_;rintro e w1 ⟨rfl,hw⟩;rw [hw];clear hw)
    go_ret
    rw [HR.out]
    exact ⟨rfl,rfl⟩
  · cases b with
    | false =>
      have HR:Hid (levelS s=0):=by show _=_;rw [HL.out,if_pos (Or.inr (Or.inr rfl))]
      go_enter Tryz.func148,Tryz.ntmps148
      go_wp2_with (first | (go_at_call 177;refine (c _).mono ?_;rintro e w1 ⟨rfl,hw⟩;rw [hw];clear hw) | (go_at_call 178;refine (c2 _).mono ?_;rintro e w1 ⟨rfl,hw⟩;rw [hw];clear hw))
      go_ret
      rw [HR.out]
      exact ⟨rfl,rfl⟩
    | true =>
      have HR:Hid (levelS s=n):=by
        show _=_
        rw [HL.out]
        by_cases h1:n < 1
        · rw [if_pos (Or.inl h1)];omega
        · rw [if_neg (by intro h;rcases h with h | h | h;exact h1 h;exact h3 h;cases h)]
      go_enter Tryz.func148,Tryz.ntmps148
      go_wp2_with (first | (go_at_call 177;refine (c _).mono ?_;rintro e w1 ⟨rfl,hw⟩;rw [hw];clear hw) | (go_at_call 178;refine (c2 _).mono ?_;rintro e w1 ⟨rfl,hw⟩;rw [hw];clear hw))
      go_ret
      rw [HR.out]
      exact ⟨by go_num,rfl⟩
def kindOf (sv:Int):Int:=if sv=2 then 5 else if sv=3 then 1 else if sv=4 then 2 else if sv=5 then 3 else 0
set_option maxHeartbeats 1000000 in
theorem dbegins_any (s:ByteArray) (depth:Int) (w:World) (hs:s.size≤4611686018427387904) :
    Calls Tryz.prog 128 #[.string s,.int .i64 depth] w fun e w'=>e=.returned (.int .i64 (kindOf (startsS s depth)))∧w'=w:=by
  have c1:=fun W=>dfence_any s W
  have c2:=fun W=>dlevel_any s W hs
  have c3:=fun W=>dquoted_any s W
  have c4:=fun W=>ditem_any s W
  have HS:Hid (startsS s depth=if beginsS s ⟨#[96,96,96]⟩=true then 2 else if 0 < levelS s then 3 else if beginsS s ⟨#[62]⟩=true∧depth < 3 then 4 else if itemS s=true∧depth < 3 then 5 else 0):=by show _=_;rfl
  generalize beginsS s ⟨#[96,96,96]⟩=b1 at c1 HS
  generalize levelS s=k at c2 HS
  generalize beginsS s ⟨#[62]⟩=b3 at c3 HS
  generalize itemS s=b4 at c4 HS
  cases b1 with
  | true =>
    have HR:Hid (kindOf (startsS s depth)=5):=by show _=_;rw [HS.out];rfl
    clear HS
    go_enter Tryz.func128,Tryz.ntmps128
    go_wp2_with (go_at_call 147;refine (c1 _).mono ?_;rintro e w1 ⟨rfl,hw⟩;rw [hw];clear hw)
    go_ret
    rw [HR.out]
    exact ⟨rfl,rfl⟩
  | false =>
    by_cases hk:0 < k
    · have HR:Hid (kindOf (startsS s depth)=1):=by show _=_;rw [HS.out,if_neg (by decide),if_pos hk];rfl
      clear HS
      go_enter Tryz.func128,Tryz.ntmps128
      go_wp2_with (first | (go_at_call 147;refine (c1 _).mono ?_;rintro e w1 ⟨rfl,hw⟩;rw [hw];clear hw) | (go_at_call 148;refine (c2 _).mono ?_;rintro e w1 ⟨rfl,hw⟩;rw [hw];clear hw))
      go_ret
      rw [HR.out]
      exact ⟨rfl,rfl⟩
    · rw [if_neg (by decide),if_neg hk] at HS
      by_cases hd:depth < 3
      · cases b3 with
        | true =>
          have HR:Hid (kindOf (startsS s depth)=2):=by show _=_;rw [HS.out,if_pos ⟨rfl,hd⟩];rfl
          clear HS
          go_enter Tryz.func128,Tryz.ntmps128
          go_wp2_with (first | (go_at_call 147;refine (c1 _).mono ?_;rintro e w1 ⟨rfl,hw⟩;rw [hw];clear hw) | (go_at_call 148;refine (c2 _).mono ?_;rintro e w1 ⟨rfl,hw⟩;rw [hw];clear hw) | (go_at_call 149;refine (c3 _).mono ?_;rintro e w1 ⟨rfl,hw⟩;rw [hw];clear hw))
          go_ret
          rw [HR.out]
          exact ⟨rfl,rfl⟩
        | false =>
          rw [if_neg (by simp)] at HS
          cases b4 with
          | true =>
            have HR:Hid (kindOf (startsS s depth)=3):=by show _=_;rw [HS.out,if_pos ⟨rfl,hd⟩];rfl
            clear HS
            go_enter Tryz.func128,Tryz.ntmps128
            go_wp2_with (first | (go_at_call 147;refine (c1 _).mono ?_;rintro e w1 ⟨rfl,hw⟩;rw [hw];clear hw) | (go_at_call 148;refine (c2 _).mono ?_;rintro e w1 ⟨rfl,hw⟩;rw [hw];clear hw) | (go_at_call 149;refine (c3 _).mono ?_;rintro e w1 ⟨rfl,hw⟩;rw [hw];clear hw) | (go_at_call 150;refine (c4 _).mono ?_;rintro e w1 ⟨rfl,hw⟩;rw [hw];clear hw))
            go_ret
            rw [HR.out]
            exact ⟨rfl,rfl⟩
          | false =>
            have HR:Hid (kindOf (startsS s depth)=0):=by show _=_;rw [HS.out,if_neg (by simp)];rfl
            clear HS
            go_enter Tryz.func128,Tryz.ntmps128
            go_wp2_with (first | (go_at_call 147;refine (c1 _).mono ?_;rintro e w1 ⟨rfl,hw⟩;rw [hw];clear hw) | (go_at_call 148;refine (c2 _).mono ?_;rintro e w1 ⟨rfl,hw⟩;rw [hw];clear hw) | (go_at_call 149;refine (c3 _).mono ?_;rintro e w1 ⟨rfl,hw⟩;rw [hw];clear hw) | (go_at_call 150;refine (c4 _).mono ?_;rintro e w1 ⟨rfl,hw⟩;rw [hw];clear hw))
            go_ret
            rw [HR.out]
            exact ⟨rfl,rfl⟩
      · have HR:Hid (kindOf (startsS s depth)=0):=by show _=_;rw [HS.out,if_neg (fun h=>hd h.2),if_neg (fun h=>hd h.2)];rfl
        clear HS
        go_enter Tryz.func128,Tryz.ntmps128
        go_wp2_with (first | (go_at_call 147;refine (c1 _).mono ?_;rintro e w1 ⟨rfl,hw⟩;rw [hw];clear hw) | (go_at_call 148;refine (c2 _).mono ?_;rintro e w1 ⟨rfl,hw⟩;rw [hw];clear hw))
        go_ret
        rw [HR.out]
        exact ⟨rfl,rfl⟩
end Go.Proofs.YtljcljipppjnoaaGreatDoor
