import Derived.Test.YtljcljipppjnoaaGreatDoorJA08
import Derived.Test.YtljcljipppjnoaaGreatDoorJA29
import Derived.Test.YtljcljipppjnoaaGreatDoorJA30
import Derived.WalkMore
import Derived.Deep.QuietTactic
import Derived.BigQuiet
import Derived.Lib.OthersKept
import Derived.Deep.CutBlock
namespace Go.Proofs.YtljcljipppjnoaaGreatDoor
open Go.RowKit Go.Shelf
theorem lv_indexByte (s:ByteArray) (c:Int) (w:World) :
    Calls Tryz.prog 193 #[.string s,.int .u8 c] w fun e w'=>e=.returned (.int .i64 (Lib.indexByte s.data.toList c.toNat.toUInt8))∧w'=w:=Any.strings_IndexByte Tryz.lays137 s c w
theorem byte_none (l:List UInt8) (c:UInt8) (h:∀ x ∈ l,x ≠ c):Lib.indexByte l c=-1:=by
  induction l with
  | nil=>rfl
  | cons b l ih =>
    have hb:(b == c)=false:=by rw [beq_eq_false_iff_ne];exact h b (by simp)
    rw [Lib.indexByte,hb,ih (fun x hx=>h x (by simp [hx]))]
    rfl
theorem wide_high (s:ByteArray) (p:Nat) (h:p < s.size) (h128:128≤(s.get! p).toNat) (k:Nat) (hk:k < (Utf8.decode s p).2):p+k < s.size∧128≤(s.get! (p+k)).toNat:=by
  have h0:p+0 < s.size∧128≤(s.get! (p+0)).toNat:=⟨h,h128⟩
  have hk4:k=0∨k=1∨k=2∨k=3∨4≤k:=by omega
  simp only [Utf8.decode] at hk
  repeat' split at hk
  all_goals
    simp only [Bool.and_eq_true,decide_eq_true_eq,beq_iff_eq,Nat.add_zero] at *
    rcases hk4 with rfl | rfl | rfl | rfl | hk4
    all_goals first | exact h0 | (refine ⟨?_,?_⟩ <;> omega) | omega
set_option maxHeartbeats 2000000 in
theorem valid_any (r:Int) (w:World) (h0:128≤r) (h1:r≤2147483647) :
    Calls Tryz.prog 238 #[.int .i32 r] w fun e w'=>e=.returned (.bool (Utf8.valid r))∧w'=w:=by
  have hq:r < 55296∨(55296≤r∧r≤57343)∨(57343 < r∧r≤1114111)∨1114111 < r:=by omega
  rcases hq with h | ⟨h,h'⟩ | ⟨h,h'⟩ | h
  all_goals
    first
    | (have HV:Hid (Utf8.valid r=true):=by show _=_;unfold Utf8.valid;simp;omega)
    | (have HV:Hid (Utf8.valid r=false):=by show _=_;unfold Utf8.valid;simp;omega)
    go_enter Tryz.func238,Tryz.ntmps238
    go_wp2
    go_ret
    rw [HV.out]
    first
    | exact ⟨rfl,rfl⟩
set_option maxHeartbeats 4000000 in
set_option maxRecDepth 1000000 in
theorem rune_big (chars:ByteArray) (r:Int) (w:World) (h0:128≤r) (h1:r≤2147483647) (hch:∀ (j:Nat) (h:j < chars.size),(chars[j]'h).toNat < 128) :
    Calls Tryz.prog 225 #[.string chars,.int .i32 r] w fun e w'=>e=.returned (.int .i64 (-1))∧Below w.heap.size w w':=by
  by_cases he:r=65533
  · subst he
    go_enter Tryz.func225,Tryz.ntmps225
    go_wp2
    go_loopg [5,6] chars.size (fun g _ _ wx=>∃ i:Nat,i+g=chars.size∧wx=w.iter chars i)
    case atStart=>exact ⟨0,by omega,rfl⟩
    case round =>
      obtain ⟨i,hig,rfl⟩:=hrel
      cases gk with
      | zero =>
        obtain rfl:i=chars.size:=by omega
        have hnx:=run_next_end (P:=Tryz.prog) w chars chars.size
        go_wp2
        go_ret
        exact ⟨rfl,(Below.refl _ _).alloc (Nat.le_refl _) _⟩
      | succ g =>
        have hi:i < chars.size:=by omega
        have hx128:=hch i hi
        have hnx:=fun ty=>run_next_ascii (P:=Tryz.prog) w chars i ty hi hx128
        generalize (chars[i]'hi).toNat=x at hx128 hnx
        go_wp2
        go_roundg g
        case measure=>omega
        case rel=>exact ⟨i+1,by omega,rfl⟩
  · have cv:=fun W=>valid_any r W h0 h1
    have he2:(r == 65533)=false:=by rw [beq_eq_false_iff_ne];exact he
    by_cases hv:Utf8.valid r=true
    · rw [hv] at cv
      obtain ⟨rs,hconv,f1,f2,f3⟩:∃ rs:ByteArray,(∀ W,(convert 21 9 (.int .i32 r)).run Tryz.prog W=.ok (.string rs) W)∧2≤rs.size∧rs.size≤4∧∀ h:rs.size - 1 < rs.size,128≤(rs[rs.size - 1]'h).toNat :=
        ⟨Utf8.encode r,fun W=>run_convert_int_string W _ _ _ _ (by rw [Tryz.underlying21];rfl) Tryz.underlying9,encode_facts r hv h0⟩
      have hlt:rs.size - 1 < rs.size:=by omega
      have f4:=f3 hlt
      clear f3 hv he
      go_enter Tryz.func225,Tryz.ntmps225
      go_wp2_with (go_at_call 238;refine (cv _).mono ?_;rintro e w' ⟨rfl,hw⟩;rw [hw];clear hw)
      go_step3
      go_wp2
      go_loop [9,10] (fun i f=>i=.int .i64 ((rs.size:Int) - 1)∧f=.int .i64 0) (fun _ _=>0)
      case atStart=>exact ⟨by go_num,rfl⟩
      case round =>
        obtain ⟨rfl,rfl⟩:=hrel
        by_cases hc:rs.size - 1 < chars.size
        · have hx:=hch (rs.size - 1) hc
          have e1:((rs.size:Int) - 1).toNat=rs.size - 1:=by omega
          have z1:(1:Int)≤(rs.size:Int):=by omega
          have z2:(rs.size:Int) - 1 < (chars.size:Int):=by omega
          have z3:(rs.size:Int) - 1 < (rs.size:Int):=by omega
          have hcmp:((((chars[rs.size - 1]'hc).toNat:Int)) != (((rs[rs.size - 1]'hlt).toNat:Int)))=true:=by simp;omega
          go_wp2
          go_step3
          go_wp2
          go_region
          go_wp2
          have z4:(rs.size:Int)≤(chars.size:Int):=by omega
          have z5:IntKind.i64.wrap (rs.size:Int)=(rs.size:Int):=wrap_small _ (by omega) (by omega)
          have cI:∀ W,Calls Tryz.prog 193 #[.string (chars.extract rs.size chars.size),.int .u8 ((rs[rs.size - 1]'hlt).toNat:Int)] W fun e w'=>e=.returned (.int .i64 (-1))∧w'=W:=by
            intro W
            refine (lv_indexByte _ _ _).mono ?_
            rintro e w' ⟨rfl,hw⟩
            refine ⟨?_,hw⟩
            rw [byte_none]
            intro x hx2 hxe
            rw [Lib.extract_data] at hx2
            have hx3:=List.mem_of_mem_drop (List.mem_of_mem_take hx2)
            obtain ⟨j,hj,hjx⟩:=List.getElem_of_mem hx3
            have:=hch j (by rw [← ba_len chars];exact hj)
            have hjx2:chars[j]'(by rw [← ba_len chars];exact hj)=x:=hjx
            rw [hjx2,hxe] at this
            simp at this
            omega
          go_quiet ((go_at_call 193;refine (cI _).mono ?_;rintro e w'' ⟨rfl,rfl⟩;exact ⟨rfl,_,rfl⟩))
          go_wp2
          rw [Exit.noGoto_ret]
          go_wp2
          rw [Exit.noGoto_ret]
          go_wp2
          go_ret
          exact ⟨rfl,rfl,rfl,rfl,Nat.le_refl _,fun _ _=>rfl⟩
        · go_wp2
          go_ret
          exact ⟨rfl,Below.refl _ _⟩
    · have hv2:Utf8.valid r=false:=by simpa using hv
      rw [hv2] at cv
      clear hv hv2 he
      go_enter Tryz.func225,Tryz.ntmps225
      go_wp2_with (go_at_call 238;refine (cv _).mono ?_;rintro e w' ⟨rfl,hw⟩;rw [hw];clear hw)
      go_ret
      exact ⟨rfl,Below.refl _ _⟩
theorem lv_indexRune (chars:ByteArray) (r:Int) (w:World) (h0:0≤r) (h1:r < 128) :
    Calls Tryz.prog 225 #[.string chars,.int .i32 r] w fun e w'=>e=.returned (.int .i64 (Lib.indexByte chars.data.toList r.toNat.toUInt8))∧w'=w :=
  Any.strings_IndexRune_ascii { Tryz.lays153 with } chars r w h0 h1
theorem lv_should (n:Int) (w:World) :
    Calls Tryz.prog 226 #[.int .i64 n] w fun e w'=>e=.returned (.bool (decide (8 < n)))∧w'=w :=
  Any.strings_shouldUseASCIISet { Tryz.lays153 with } n w
theorem noAny_wide (s chars:ByteArray) (i:Nat) (hi:i < s.size) (h128:128≤(s.get! i).toNat) (hch:∀ (j:Nat) (h:j < chars.size),(chars[j]'h).toNat < 128) (h:Lib.NoAny s.data.toList chars.data.toList i):Lib.NoAny s.data.toList chars.data.toList (i+(Utf8.decode s i).2):=by
  intro j b hj hb
  by_cases hji:j < i
  · exact h j b hji hb
  · obtain ⟨h1,h2⟩:=wide_high s i hi h128 (j - i) (by omega)
    rw [show i+(j - i)=j by omega] at h1 h2
    have hbs:s[j]'h1=b:=by
      have:s.data.toList[j]?=some s[j]:=at_some s j h1
      rw [this] at hb
      exact Option.some.inj hb
    rw [get_bang s j h1,hbs] at h2
    rw [← Bool.not_eq_true,List.contains_iff_mem]
    intro hm
    obtain ⟨k,hk,hkb⟩:=List.getElem_of_mem hm
    have:=hch k (by rw [← ba_len chars];exact hk)
    have hkb2:chars[k]'(by rw [← ba_len chars];exact hk)=b:=hkb
    rw [hkb2] at this
    omega
set_option maxHeartbeats 4000000 in
set_option maxRecDepth 1000000 in
theorem any_short (s chars:ByteArray) (w:World) (h2:2≤chars.size) (h8:s.size≤8) (hch:∀ (j:Nat) (h:j < chars.size),(chars[j]'h).toNat < 128) :
    Calls Tryz.prog 201 #[.string s,.string chars] w fun e w'=>e=.returned (.int .i64 (Lib.indexAny s.data.toList chars.data.toList))∧Below w.heap.size w w':=by
  have hemp:chars.toList.isEmpty=false:=by
    rw [Lib.toList_data]
    cases h:chars.data.toList with
    | nil=>have:=Lib.size_eq chars;rw [h,List.length_nil] at this;omega
    | cons _ _=>rfl
  have hn1:((chars.size:Int) == 1)=false:=beq_eq_false_iff_ne.2 (by omega)
  have h8z:decide ((8:Int) < (s.size:Int))=false:=decide_eq_false (by omega)
  have cS:=fun W=>lv_should (s.size:Int) W
  rw [h8z] at cS
  have HC:Hid (∀ (j:Nat) (h:j < chars.size),(chars[j]'h).toNat < 128):=hch
  have cB:=fun (r:Int) W h0 h1=>rune_big chars r W h0 h1 hch
  have HB:Hid _:=cB
  clear hch cB h8z
  go_enter Tryz.func201,Tryz.ntmps201
  go_wp2_with (go_at_call 226;refine (cS _).mono ?_;rintro e w' ⟨rfl,hw⟩;rw [hw];clear hw)
  go_loopg [9,10] s.size (fun gk _ _ wr=>∃ i:Nat,i≤s.size∧s.size≤i+gk∧wr.heap[w.heap.size]?=some (.stringIter s i)∧Below w.heap.size w wr∧Hid (Lib.NoAny s.data.toList chars.data.toList i))
  case atStart=>exact ⟨0,Nat.zero_le _,by omega,World.iter_heap w s 0,(Below.refl _ _).alloc (Nat.le_refl _) _,Lib.NoAny.zero _ _⟩
  case round =>
    obtain ⟨i,hi,hg,hit,hb,HN⟩:=hrel
    have hsz:w.heap.size < wr.heap.size:=(Array.getElem?_eq_some_iff.1 hit).1
    by_cases hlt:i < s.size
    · have hnx:∀ ty,(Instr.next (.pointer (some ⟨w.heap.size,0,none⟩)) true ty).run Tryz.prog wr=_:=fun ty=>Lib.run_next_any_at wr w.heap.size s i ty hit hlt
      have hwd:=width_pos s i hlt
      have hd1:=decode_le s i
      obtain ⟨g,rfl⟩:∃ g,gk=g+1:=⟨gk - 1,by omega⟩
      have hit2:=Lib.iterAt_heap wr w.heap.size s i (i+(Utf8.decode s i).2) hit
      have hbw2:=Lib.below_iterAt hb (k:=w.heap.size) (Nat.le_refl _) s (i+(Utf8.decode s i).2)
      have hsz2:w.heap.size < (wr.iterAt w.heap.size s (i+(Utf8.decode s i).2)).heap.size:=by rw [Lib.iterAt_size];omega
      by_cases ha:(s.get! i).toNat < 128
      · have hda:Utf8.decode s i=((s.get! i).toNat,1):=by
          rw [get_bang s i hlt] at ha ⊢
          exact decode_ascii s i hlt ha
        rw [hda] at hnx hit2 hbw2 hsz2
        have hxl:s.data.toList[i]?=some (s.get! i):=by rw [get_bang s i hlt];exact at_some s i hlt
        have Hx:Hid (s.data.toList[i]?=some (s.get! i)):=hxl
        have hcon:=Lib.contains_iff_indexByte chars.data.toList (s.get! i)
        have hback:(((s.get! i).toNat:Int)).toNat.toUInt8=s.get! i:=by simp
        have cR:=fun W=>lv_indexRune chars ((s.get! i).toNat:Int) W (by omega) (by omega)
        rw [hback] at cR
        clear hda hxl hback hwd hd1
        simp only at hnx hit2 hbw2 hsz2
        generalize s.get! i=x at hnx Hx hcon ha cR
        cases hin:chars.data.toList.contains x
        · rw [hin] at hcon
          have hltz:¬ ((0:Int)≤Lib.indexByte chars.data.toList x):=of_decide_eq_false hcon.symm
          have HN2:Hid (Lib.NoAny s.data.toList chars.data.toList (i+1)):=HN.out.succ Hx.out hin
          clear hcon hin
          go_wp2_with (go_at_call 225;refine (cR _).mono ?_;rintro e w' ⟨rfl,hw⟩;rw [hw];clear hw)
          go_roundg g
          case measure=>omega
          case rel=>exact ⟨i+1,by omega,by omega,hit2,hbw2,HN2⟩
        · rw [hin] at hcon
          have hge:(0:Int)≤Lib.indexByte chars.data.toList x:=of_decide_eq_true hcon.symm
          have HF:Hid (Lib.indexAny s.data.toList chars.data.toList=i):=Lib.indexAny_hit HN.out Hx.out hin
          clear hcon hin
          go_wp2_with (go_at_call 225;refine (cR _).mono ?_;rintro e w' ⟨rfl,hw⟩;rw [hw];clear hw)
          go_ret
          exact ⟨by rw [HF.out];rfl,hbw2⟩
      · have hh:=(decode_high s i hlt (by rw [← get_bang s i hlt];omega)).1
        have HN2:Hid (Lib.NoAny s.data.toList chars.data.toList (i+(Utf8.decode s i).2)):=noAny_wide s chars i hlt (by omega) HC.out HN.out
        have hle:i+(Utf8.decode s i).2≤s.size:=by
          have:=(wide_high s i hlt (by omega) ((Utf8.decode s i).2 - 1) (by omega)).1
          omega
        obtain ⟨r,hr⟩:∃ r,(Utf8.decode s i).1=r:=⟨_,rfl⟩
        obtain ⟨d,hd⟩:∃ d,(Utf8.decode s i).2=d:=⟨_,rfl⟩
        rw [hr] at hnx hd1 hh
        rw [hd] at hnx hwd hit2 hbw2 hsz2 HN2 hle
        have cR:=fun W=>HB.out (r:Int) W (by omega) (by omega)
        clear hr hd ha HN
        go_wp2_with (go_at_call 225;refine (cR _).mono ?_;rintro e w1 ⟨rfl,b1⟩)
        go_roundg g
        case measure=>omega
        case rel=>exact ⟨i+d,by omega,by omega,(b1.block _ hsz2).trans hit2,hbw2.trans (b1.mono (by omega)),HN2⟩
    · have hnx:∀ ty,(Instr.next (.pointer (some ⟨w.heap.size,0,none⟩)) true ty).run Tryz.prog wr=_:=fun ty=>Lib.run_next_end_at wr w.heap.size s i ty hit hlt
      have HF:Hid (Lib.indexAny s.data.toList chars.data.toList=-1):=Lib.indexAny_none (by rw [← Lib.size_eq,show s.size=i by omega];exact HN.out)
      go_wp2
      go_ret
      exact ⟨by rw [HF.out];rfl,hb⟩
set_option maxRecDepth 1000000 in
theorem lv_indexAny (s chars:ByteArray) (w:World) (hs:s.size < 4294967281) (h2:2≤chars.size) (h9:chars.size≤64) (hch:∀ (j:Nat) (h:j < chars.size),(chars[j]'h).toNat < 128) :
    Calls Tryz.prog 201 #[.string s,.string chars] w fun e w'=>e=.returned (.int .i64 (firstZ (fun x=>chars.data.toList.contains x) s.data.toList))∧Below w.heap.size w w':=by
  rw [← ia_first]
  by_cases h8:s.size≤8
  · exact any_short s chars w h2 h8 hch
  · have h116:(Tryz.prog.info? 260).map (fun i=>(i.zero,i.size))=some (some (.agg (Array.replicate 256 (.bool false))),256):=by kernel_rfl
    refine (Any.strings_IndexAny_long Tryz.lays153 (zero_of_info h116).1 (zero_of_info h116).2 s chars w (by omega) (by omega) hs (by omega) ?_).mono fun e w' ⟨h1,h2⟩=>⟨h1,?_⟩
    · intro j b hb
      have hj:j < chars.size:=by
        rw [← ba_len chars]
        exact (List.getElem?_eq_some_iff.1 hb).1
      have:chars.data.toList[j]?=some chars[j]:=at_some chars j hj
      rw [this] at hb
      rw [← Option.some.inj hb]
      exact hch j hj
    · rw [h2]
      exact ((Below.refl _ _).alloc (Nat.le_refl _) _).alloc (by simp) _
end Go.Proofs.YtljcljipppjnoaaGreatDoor
namespace Go.Proofs.YtljcljipppjnoaaGreatDoor
open Go.RowKit Go.Shelf
theorem drop_data (s:ByteArray) (k:Nat):(s.extract k s.size).data.toList=s.data.toList.drop k:=by
  rw [Lib.extract_data,List.take_of_length_le]
  rw [List.length_drop,ba_len]
  exact Nat.le_refl _
def escN (l:List UInt8):Nat:=if l[1]?.map signS=some true then 2 else 0
def codN (l:List UInt8):Nat:=if nextAt l 96 1 < l.length then nextAt l 96 1+1 else 0
set_option maxRecDepth 100000 in
set_option maxHeartbeats 2000000 in
theorem esc_any (s:ByteArray) (w:World) (hs:s.size≤1073741824) :
    Calls Tryz.prog 194 #[.string s] w fun e w'=>e=.returned (.int .i64 (escN s.data.toList))∧w'=w:=by
  by_cases h1:1 < s.size
  · have hat:s.data.toList[1]?=some s[1]:=at_some s 1 h1
    have c1:=fun W=>lv_indexByte ⟨#[33,34,35,36,37,38,39,40,41,42,43,44,45,46,47,58,59,60,61,62,63,64,91,92,93,94,95,96,123,124,125,126]⟩ (s[1].toNat:Int) W
    have hback:(((s[1]).toNat:Int)).toNat.toUInt8=s[1]:=by simp
    have hcon:=Lib.contains_iff_indexByte [33,34,35,36,37,38,39,40,41,42,43,44,45,46,47,58,59,60,61,62,63,64,91,92,93,94,95,96,123,124,125,126] s[1]
    rw [signs_any] at hcon
    rw [hback] at c1
    have e1:(⟨#[33,34,35,36,37,38,39,40,41,42,43,44,45,46,47,58,59,60,61,62,63,64,91,92,93,94,95,96,123,124,125,126]⟩:ByteArray).data.toList=[33,34,35,36,37,38,39,40,41,42,43,44,45,46,47,58,59,60,61,62,63,64,91,92,93,94,95,96,123,124,125,126]:=rfl
    rw [e1] at c1
    have HE:Hid (escN s.data.toList=if signS s[1]=true then 2 else 0):=by
      show _=_
      rw [escN,hat]
      simp
    generalize Lib.indexByte [33,34,35,36,37,38,39,40,41,42,43,44,45,46,47,58,59,60,61,62,63,64,91,92,93,94,95,96,123,124,125,126] s[1]=z at c1 hcon
    clear hat hback e1
    cases hb:signS s[1] with
    | true =>
      rw [hb] at hcon HE
      have hz:(0:Int)≤z:=of_decide_eq_true hcon.symm
      have HE2:Hid (escN s.data.toList=2):=by show _=_;rw [HE.out];rfl
      clear hb hcon HE
      go_enter Tryz.func194,Tryz.ntmps194
      go_wp2_with (go_at_call 193;refine (c1 _).mono ?_;rintro e w' ⟨rfl,hw⟩;rw [hw];clear hw)
      go_ret
      exact ⟨by rw [HE2.out];rfl,rfl⟩
    | false =>
      rw [hb] at hcon HE
      have hz:¬ (0:Int)≤z:=of_decide_eq_false hcon.symm
      have HE2:Hid (escN s.data.toList=0):=by show _=_;rw [HE.out];rfl
      clear hb hcon HE
      go_enter Tryz.func194,Tryz.ntmps194
      go_wp2_with (go_at_call 193;refine (c1 _).mono ?_;rintro e w' ⟨rfl,hw⟩;rw [hw];clear hw)
      go_ret
      exact ⟨by rw [HE2.out];rfl,rfl⟩
  · have HE2:Hid (escN s.data.toList=0):=by
      show _=_
      rw [escN,at_none s 1 h1]
      rfl
    go_enter Tryz.func194,Tryz.ntmps194
    go_wp2
    go_ret
    exact ⟨by rw [HE2.out];rfl,rfl⟩
set_option maxRecDepth 100000 in
set_option maxHeartbeats 2000000 in
theorem cod_any (s:ByteArray) (w:World) (h1:1≤s.size) (hs:s.size≤1073741824) :
    Calls Tryz.prog 195 #[.string s] w fun e w'=>e=.returned (.int .i64 (codN s.data.toList))∧w'=w:=by
  have hl:=ba_len s
  have c1:=fun W=>lv_indexByte (s.extract 1 s.size) 96 W
  have e1:(96:Int).toNat.toUInt8=96:=rfl
  rw [e1,drop_data,ib_first] at c1
  have hn:=next_first s.data.toList 96 1
  have hle:=firstN_le (fun x=>x == 96) (s.data.toList.drop 1)
  rw [List.length_drop,hl] at hle
  by_cases h:firstN (fun x=>x == 96) (s.data.toList.drop 1) < s.size - 1
  · have hz:firstZ (fun x=>x == 96) (s.data.toList.drop 1)=(firstN (fun x=>x == 96) (s.data.toList.drop 1):Int):=by rw [firstZ,if_pos (by rw [List.length_drop,hl];exact h)]
    have HE:Hid (codN s.data.toList=firstN (fun x=>x == 96) (s.data.toList.drop 1)+2):=by
      show _=_
      rw [codN,hn,if_pos (by omega)]
      omega
    rw [hz] at c1
    generalize firstN (fun x=>x == 96) (s.data.toList.drop 1)=n at c1 HE h
    clear hz hn hle e1
    go_enter Tryz.func195,Tryz.ntmps195
    go_wp2_with (go_at_call 193;refine (c1 _).mono ?_;rintro e w' ⟨rfl,hw⟩;rw [hw];clear hw)
    go_ret
    rw [HE.out]
    refine ⟨congrArg (fun z:Int=>Ending.returned (Value.int IntKind.i64 z)) ?_,rfl⟩
    omega
  · have hz:firstZ (fun x=>x == 96) (s.data.toList.drop 1)=-1:=by rw [firstZ,if_neg (by rw [List.length_drop,hl];exact h)]
    have HE:Hid (codN s.data.toList=0):=by
      show _=_
      rw [codN,hn,if_neg (by omega)]
    rw [hz] at c1
    clear hz hn hle e1 h
    go_enter Tryz.func195,Tryz.ntmps195
    go_wp2_with (go_at_call 193;refine (c1 _).mono ?_;rintro e w' ⟨rfl,hw⟩;rw [hw];clear hw)
    go_ret
    rw [HE.out]
    exact ⟨rfl,rfl⟩
set_option maxRecDepth 100000 in
set_option maxHeartbeats 2000000 in
theorem pln_any (s:ByteArray) (w:World) (h1:1≤s.size) (hs:s.size≤1073741824) :
    Calls Tryz.prog 174 #[.string s] w fun e w'=>e=.returned (.int .i64 (plainLen s.data.toList))∧Below w.heap.size w w':=by
  have hl:=ba_len s
  have c1:=fun W=>lv_indexAny (s.extract 1 s.size) ⟨#[92,10,96,91,42]⟩ W (by rw [ByteArray.size_extract];omega) (by decide) (by decide) (by decide)
  have e1:(⟨#[92,10,96,91,42]⟩:ByteArray).data.toList=[92,10,96,91,42]:=rfl
  rw [e1,drop_data,show (fun x=>([92,10,96,91,42]:List UInt8).contains x)=isMark from funext marks_any] at c1
  have hle:=firstN_le isMark (s.data.toList.drop 1)
  rw [List.length_drop,hl] at hle
  have hp:plainLen s.data.toList=1+firstN isMark (s.data.toList.drop 1):=by rw [plainLen,firstN,List.drop_one]
  by_cases h:firstN isMark (s.data.toList.drop 1) < s.size - 1
  · have hz:firstZ isMark (s.data.toList.drop 1)=(firstN isMark (s.data.toList.drop 1):Int):=by rw [firstZ,if_pos (by rw [List.length_drop,hl];exact h)]
    rw [hz] at c1
    have HP:Hid (plainLen s.data.toList=1+firstN isMark (s.data.toList.drop 1)):=hp
    generalize firstN isMark (s.data.toList.drop 1)=n at c1 HP h
    clear hz hp hle e1
    go_enter Tryz.func174,Tryz.ntmps174
    go_wp2_with (go_at_call 201;refine (c1 _).mono ?_;rintro e w1 ⟨rfl,b1⟩)
    go_ret
    rw [HP.out]
    exact ⟨by congr 2,b1⟩
  · have hz:firstZ isMark (s.data.toList.drop 1)=-1:=by rw [firstZ,if_neg (by rw [List.length_drop,hl];exact h)]
    rw [hz] at c1
    have HP:Hid (plainLen s.data.toList=s.size):=by show _=_;omega
    clear hz hp hle e1 h
    go_enter Tryz.func174,Tryz.ntmps174
    go_wp2_with (go_at_call 201;refine (c1 _).mono ?_;rintro e w1 ⟨rfl,b1⟩)
    go_ret
    rw [HP.out]
    exact ⟨rfl,b1⟩
set_option maxRecDepth 100000 in
set_option maxHeartbeats 2000000 in
theorem gap_any (c:UInt8) (w:World) :
    Calls Tryz.prog 224 #[.int .u8 (c.toNat:Int)] w fun e w'=>e=.returned (.bool (bl3 c))∧w'=w:=by
  have c1:=fun W=>lv_indexByte ⟨#[32,9,10]⟩ (c.toNat:Int) W
  have hback:(((c).toNat:Int)).toNat.toUInt8=c:=by simp
  have hcon:=Lib.contains_iff_indexByte [32,9,10] c
  rw [gaps_any] at hcon
  rw [hback] at c1
  have e1:(⟨#[32,9,10]⟩:ByteArray).data.toList=[32,9,10]:=rfl
  rw [e1] at c1
  rw [hcon]
  generalize Lib.indexByte [32,9,10] c=z at c1
  clear hcon hback e1
  go_enter Tryz.func224,Tryz.ntmps224
  go_wp2_with (go_at_call 193;refine (c1 _).mono ?_;rintro e w' ⟨rfl,hw⟩;rw [hw];clear hw)
  go_ret
  exact ⟨rfl,rfl⟩
def passN (l:List UInt8):Nat:=if l[0]?=some 92 then max 1 (escN l) else if l[0]?=some 96 then max 1 (codN l) else 1
set_option maxRecDepth 100000 in
set_option maxHeartbeats 2000000 in
theorem pass_any (s:ByteArray) (w:World) (h1:1≤s.size) (hs:s.size≤1073741824) :
    Calls Tryz.prog 223 #[.string s] w fun e w'=>e=.returned (.int .i64 (passN s.data.toList))∧w'=w:=by
  have hat:s.data.toList[0]?=some s[0]:=at_some s 0 h1
  have cE:=fun W=>esc_any s W hs
  have cC:=fun W=>cod_any s W h1 hs
  have t92:=u8_eq s[0] 92
  have t96:=u8_eq s[0] 96
  have HP:Hid (passN s.data.toList=if s[0]=92 then max 1 (escN s.data.toList) else if s[0]=96 then max 1 (codN s.data.toList) else 1):=by
    show _=_
    rw [passN,hat]
    simp only [Option.some.injEq]
  generalize escN s.data.toList=a at cE HP
  generalize codN s.data.toList=b at cC HP
  clear hat
  by_cases h92:s[0]=92
  · have g92:((s[0].toNat:Int) == 92)=true:=by rw [h92];rfl
    have HP2:Hid (passN s.data.toList=max 1 a):=by show _=_;rw [HP.out,if_pos h92]
    clear t92 t96 h92 HP
    go_enter Tryz.func223,Tryz.ntmps223
    go_wp2_with (go_at_call 194;refine (cE _).mono ?_;rintro e w' ⟨rfl,hw⟩;rw [hw];clear hw)
    go_ret
    rw [HP2.out]
    refine ⟨congrArg (fun z:Int=>Ending.returned (Value.int IntKind.i64 z)) ?_,rfl⟩
    omega
  · have g92:((s[0].toNat:Int) == 92)=false:=t92.trans (beq_eq_false_iff_ne.2 h92)
    by_cases h96:s[0]=96
    · have g96:((s[0].toNat:Int) == 96)=true:=by rw [h96];rfl
      have HP2:Hid (passN s.data.toList=max 1 b):=by show _=_;rw [HP.out,if_neg h92,if_pos h96]
      clear t92 t96 h92 h96 HP
      go_enter Tryz.func223,Tryz.ntmps223
      go_wp2_with (go_at_call 195;refine (cC _).mono ?_;rintro e w' ⟨rfl,hw⟩;rw [hw];clear hw)
      go_ret
      rw [HP2.out]
      refine ⟨congrArg (fun z:Int=>Ending.returned (Value.int IntKind.i64 z)) ?_,rfl⟩
      omega
    · have g96:((s[0].toNat:Int) == 96)=false:=t96.trans (beq_eq_false_iff_ne.2 h96)
      have HP2:Hid (passN s.data.toList=1):=by show _=_;rw [HP.out,if_neg h92,if_neg h96]
      clear t92 t96 h92 h96 HP
      go_enter Tryz.func223,Tryz.ntmps223
      go_wp2
      go_ret
      rw [HP2.out]
      exact ⟨rfl,rfl⟩
end Go.Proofs.YtljcljipppjnoaaGreatDoor
namespace Go.Proofs.YtljcljipppjnoaaGreatDoor
open Go.RowKit Go.Shelf
theorem lv_prefix (s p:ByteArray) (w:World) :
    Calls Tryz.prog 176 #[.string s,.string p] w fun e w'=>e=.returned (.bool (p.data.toList.isPrefixOf s.data.toList))∧w'=w:=Any.strings_HasPrefix Tryz.lays99 s p w
theorem pre_two (m:List UInt8) (a b:UInt8):[a,b].isPrefixOf m=true ↔ m[0]?=some a∧m[1]?=some b:=by
  cases m with
  | nil=>simp
  | cons x m =>
    cases m with
    | nil=>simp
    | cons y m =>
      simp [List.isPrefixOf]
      constructor
      · rintro ⟨h1,h2⟩;exact ⟨h1.symm,h2.symm⟩
      · rintro ⟨h1,h2⟩;exact ⟨h1.symm,h2.symm⟩
theorem pass_step (l:List UInt8) (j:Nat) (h:j < l.length) (h42:l[j]? ≠ some 42):pfrom l (j+passN (l.drop j))=pfrom l j∧j+passN (l.drop j)≤l.length∧1≤passN (l.drop j):=by
  have e0:(l.drop j)[0]?=l[j]?:=(at_drop l j 0).symm
  have e1:(l.drop j)[1]?=l[j+1]?:=(at_drop l j 1).symm
  have en:nextAt l 96 (j+1)=j+nextAt (l.drop j) 96 1:=next_add l 96 j 1
  have el:(l.drop j).length=l.length - j:=List.length_drop
  have hgo:=pfrom_go l j h h42
  rw [hgo]
  unfold passN escN codN
  rw [e0,e1,el]
  by_cases c92:l[j]?=some 92
  · rw [if_pos c92]
    have n96:¬ (l[j]?=some 96∧nextAt l 96 (j+1) < l.length):=fun h=>by rw [c92] at h;simp at h
    by_cases hs:l[j+1]?.map signS=some true
    · rw [if_pos hs]
      obtain ⟨c,hc⟩:∃ c,l[j+1]?=some c:=by
        cases hh:l[j+1]? with
        | none=>rw [hh] at hs;cases hs
        | some c=>exact ⟨c,rfl⟩
      have hc1:=(List.getElem?_eq_some_iff.1 hc).1
      rw [hc] at hs
      have hp:pnext l j=j+2:=by
        unfold pnext
        rw [if_neg n96,if_pos ⟨c92,by rw [hc];simp at hs ⊢;exact Or.inl hs⟩]
      rw [hp]
      exact ⟨rfl,by omega,by omega⟩
    · rw [if_neg hs]
      show pfrom l (j+1)=_∧j+1≤_∧_
      refine ⟨?_,by omega,by omega⟩
      by_cases h10:l[j+1]?=some 10
      · have hp:pnext l j=j+2:=by
          unfold pnext
          rw [if_neg n96,if_pos ⟨c92,by rw [h10];rfl⟩]
        have hc1:=(List.getElem?_eq_some_iff.1 h10).1
        have hp2:pnext l (j+1)=j+2:=by
          unfold pnext
          rw [if_neg (fun h=>by rw [h10] at h;simp at h),if_neg (fun h=>by rw [h10] at h;simp at h)]
        rw [hp,pfrom_go l (j+1) hc1 (by rw [h10];simp),hp2]
      · have hp:pnext l j=j+1:=by
          unfold pnext
          rw [if_neg n96,if_neg]
          rintro ⟨_,h2⟩
          cases hh:l[j+1]? with
          | none=>rw [hh] at h2;cases h2
          | some c =>
            rw [hh] at h2 hs h10
            simp at h2 hs h10
            rcases h2 with h2 | h2
            · rw [h2] at hs;cases hs
            · exact h10 h2
        rw [hp]
  · rw [if_neg c92]
    by_cases c96:l[j]?=some 96
    · rw [if_pos c96]
      by_cases hn:nextAt (l.drop j) 96 1 < l.length - j
      · rw [if_pos hn]
        have hg:=next_ge (l.drop j) 96 1
        have hp:pnext l j=nextAt l 96 (j+1)+1:=by
          unfold pnext
          rw [if_pos ⟨c96,by omega⟩]
        have hm:max 1 (nextAt (l.drop j) 96 1+1)=nextAt (l.drop j) 96 1+1:=by omega
        rw [hp,hm,en]
        exact ⟨by congr 1,by omega,by omega⟩
      · rw [if_neg hn]
        have hp:pnext l j=j+1:=by
          unfold pnext
          rw [if_neg (fun h=>hn (by have:=h.2;omega)),if_neg (fun h=>c92 h.1)]
        rw [hp]
        exact ⟨rfl,by show j+1≤_;omega,by show 1≤1;omega⟩
    · rw [if_neg c96]
      have hp:pnext l j=j+1:=by
        unfold pnext
        rw [if_neg (fun h=>c96 h.1),if_neg (fun h=>c92 h.1)]
      rw [hp]
      exact ⟨rfl,by omega,by omega⟩
def partZ (l:List UInt8):Int:=match partnerS l 0 with
  | some j=>j
  | none=>0
set_option maxRecDepth 100000 in
set_option maxHeartbeats 4000000 in
theorem dpartner_any (s:ByteArray) (w:World) (h1:1≤s.size) (hs:s.size≤1073741824) :
    Calls Tryz.prog 199 #[.string s] w fun e w'=>e=.returned (.int .i64 (partZ s.data.toList))∧w'=w:=by
  have hl:=ba_len s
  obtain ⟨P,hP⟩:∃ P,pfrom s.data.toList (0+1)=P:=⟨_,rfl⟩
  have HZ:Hid (partZ s.data.toList=if P < s.size∧P ≠ 1∧s.data.toList[1]?.map bl3=some false∧s.data.toList[P - 1]?.map bl3=some false then (P:Int) else 0):=by
    show _=_
    rw [partZ,partnerS,hP,hl]
    by_cases h:P < s.size∧P ≠ 1∧s.data.toList[1]?.map bl3=some false∧s.data.toList[P - 1]?.map bl3=some false
    · rw [if_pos h,if_pos h]
    · rw [if_neg h,if_neg h]
  have HP:Hid (pfrom s.data.toList (0+1)=P):=hP
  clear hP
  generalize partZ s.data.toList=Z at HZ ⊢
  have HPS:Hid _:=pass_step s.data.toList
  go_enter Tryz.func199,Tryz.ntmps199
  go_wp2
  go_loop [3] (fun v=>∃ j:Nat,1≤j∧j≤s.size∧v=.int .i64 j∧Hid (pfrom s.data.toList j=P)) (fun v=>s.size - (intOf v).toNat)
  case atStart=>exact ⟨1,Nat.le_refl _,h1,rfl,HP⟩
  case round =>
    clear HP
    obtain ⟨j,hj1,hj2,rfl,HJ⟩:=hrel
    by_cases hgo:j < s.size∧s.data.toList[j]? ≠ some 42
    · obtain ⟨hlt,h42⟩:=hgo
      have hat:s.data.toList[j]?=some s[j]:=at_some s j hlt
      have g42:((s[j].toNat:Int) != 42)=true:=by
        have hne:s[j] ≠ 42:=fun h=>h42 (by rw [hat,h])
        rw [bne,show ((s[j].toNat:Int) == 42)=(s[j] == 42) from u8_eq s[j] 42,beq_eq_false_iff_ne.2 hne]
        rfl
      obtain ⟨p1,p2,p3⟩:=HPS.out j (by omega) h42
      have cP:=fun W=>pass_any (s.extract j s.size) W (by rw [ByteArray.size_extract];omega) (by rw [ByteArray.size_extract];omega)
      rw [drop_data] at cP
      rw [hl] at p2
      generalize passN (s.data.toList.drop j)=d at p1 p2 p3 cP
      have HJ2:Hid (pfrom s.data.toList (j+d)=P):=by show _=_;rw [p1];exact HJ.out
      clear hat h42 p1 HJ
      go_wp2_with (go_at_call 223;refine (cP _).mono ?_;rintro e w' ⟨rfl,hw⟩;rw [hw];clear hw)
      go_round
      case rel=>exact ⟨j+d,by omega,by omega,by go_num,HJ2⟩
      case measure=>simp [intOf];omega
    · have hPj:P=j:=by rw [← HJ.out];exact pfrom_at _ _ (by rw [hl];exact hgo)
      subst hPj
      clear HJ HPS
      have hout:P < s.size→((s[P]!.toNat:Int) != 42)=false:=fun hlt=>by
        have hat:s.data.toList[P]?=some s[P]:=at_some s P hlt
        have h42:s[P]=42:=by
          apply Classical.byContradiction
          intro h
          exact hgo ⟨hlt,by rw [hat];intro h2;exact h (Option.some.inj h2)⟩
        rw [getElem!_pos s P hlt,h42]
        rfl
      by_cases hone:P=1
      · have HN:Hid (Z=0):=by show _=_;rw [HZ.out,if_neg (fun h=>h.2.1 hone)]
        subst hone
        clear HZ hgo
        by_cases hlt:1 < s.size
        · have g:=hout hlt
          rw [getElem!_pos s 1 hlt] at g
          clear hout
          go_wp2
          go_ret
          rw [HN.out]
          exact ⟨rfl,rfl⟩
        · clear hout
          go_wp2
          go_ret
          rw [HN.out]
          exact ⟨rfl,rfl⟩
      · have g1:((P:Int) == 1)=false:=by rw [beq_eq_false_iff_ne];omega
        by_cases hlt:P < s.size
        · have g:=hout hlt
          rw [getElem!_pos s P hlt] at g
          have gs:((P:Int) == (s.size:Int))=false:=by rw [beq_eq_false_iff_ne];omega
          have ha:s.data.toList[1]?=some s[1]:=at_some s 1 (by omega)
          have hb:s.data.toList[P - 1]?=some s[P - 1]:=at_some s (P - 1) (by omega)
          have cA:=fun W=>gap_any s[1] W
          have cB:=fun W=>gap_any s[P - 1] W
          rw [ha,hb] at HZ
          have HZ2:Hid (Z=if bl3 s[1]=false∧bl3 s[P - 1]=false then (P:Int) else 0):=by
            show _=_
            rw [HZ.out]
            by_cases h:bl3 s[1]=false∧bl3 s[P - 1]=false
            · rw [if_pos h,if_pos ⟨hlt,hone,by simp [h.1],by simp [h.2]⟩]
            · rw [if_neg h,if_neg (fun h2=>h ⟨by simpa using h2.2.2.1,by simpa using h2.2.2.2⟩)]
          have z1:((P:Int) - 1).toNat=P - 1:=by omega
          clear hout hgo ha hb HZ hone
          cases hA:bl3 s[1] with
          | true =>
            rw [hA] at cA HZ2
            have HN:Hid (Z=0):=by show _=_;rw [HZ2.out,if_neg (fun h=>by cases h.1)]
            clear hA HZ2 cB
            go_wp2_with (go_at_call 224;refine (cA _).mono ?_;rintro e w' ⟨rfl,hw⟩;rw [hw];clear hw)
            go_ret
            rw [HN.out]
            exact ⟨rfl,rfl⟩
          | false =>
            rw [hA] at cA HZ2
            cases hB:bl3 s[P - 1] with
            | true =>
              rw [hB] at cB HZ2
              have HN:Hid (Z=0):=by show _=_;rw [HZ2.out,if_neg (fun h=>by cases h.2)]
              clear hA hB HZ2
              go_wp2_with (first | (go_at_call 224;refine (cA _).mono ?_;rintro e w' ⟨rfl,hw⟩;rw [hw];clear hw) | (go_at_call 224;refine (cB _).mono ?_;rintro e w' ⟨rfl,hw⟩;rw [hw];clear hw))
              go_ret
              rw [HN.out]
              exact ⟨rfl,rfl⟩
            | false =>
              rw [hB] at cB HZ2
              have HN:Hid (Z=P):=by show _=_;rw [HZ2.out,if_pos ⟨rfl,rfl⟩]
              clear hA hB HZ2
              go_wp2_with (first | (go_at_call 224;refine (cA _).mono ?_;rintro e w' ⟨rfl,hw⟩;rw [hw];clear hw) | (go_at_call 224;refine (cB _).mono ?_;rintro e w' ⟨rfl,hw⟩;rw [hw];clear hw))
              go_ret
              rw [HN.out]
              exact ⟨rfl,rfl⟩
        · have gs:((P:Int) == (s.size:Int))=true:=by rw [beq_iff_eq];omega
          have HN:Hid (Z=0):=by show _=_;rw [HZ.out,if_neg (fun h=>hlt h.1)]
          clear hout hgo HZ hone
          go_wp2
          go_ret
          rw [HN.out]
          exact ⟨rfl,rfl⟩
theorem first_min (m:List UInt8):firstN (fun x=>x == 91 || x == 93) m=min (firstN (fun x=>x == 91) m) (firstN (fun x=>x == 93) m):=by
  induction m with
  | nil=>rfl
  | cons c m ih =>
    rw [firstN_cons,firstN_cons,firstN_cons,ih]
    cases h1:(c == 91) <;> cases h2:(c == 93) <;> simp <;> omega
theorem link_plain (l:List UInt8) (h0:l[0]?=some 91) (m:List UInt8) (hm:m=l.drop 1) (n e:Nat) (hn:n=firstN (fun x=>x == 91 || x == 93) m) (he:e=firstN endsL (m.drop (n+2))) :
    linkS l 0=if m[n]?=some 93∧m[n+1]?=some 40∧(m.drop (n+2))[e]?=some 41 then some (1+n,1+n+2+e) else none:=by
  have hlen:0 < l.length:=(List.getElem?_eq_some_iff.1 h0).1
  have hv:l[0]=91:=(List.getElem?_eq_some_iff.1 h0).2
  have hj:nextAt l 93 0=1+firstN (fun x=>x == 93) m:=by
    rw [next_lt l 93 0 hlen (by rw [hv];rfl),next_first,hm]
  have hk:nextAt l 91 (0+1)=1+firstN (fun x=>x == 91) m:=by rw [next_first,hm]
  have hml:m.length=l.length - 1:=by rw [hm,List.length_drop]
  have hat:∀ k,l[1+k]?=m[k]?:=fun k=>by rw [hm];exact at_drop l 1 k
  rw [first_min] at hn
  have ha:=firstN_le (fun x=>x == 91) m
  have hb:=firstN_le (fun x=>x == 93) m
  have fa:=fun h=>first_some (p:=fun x=>x == 91) (l:=m) h
  have fb:=fun h=>first_some (p:=fun x=>x == 93) (l:=m) h
  unfold linkS
  rw [hj,hk]
  generalize firstN (fun x=>x == 91) m=a at hn ha fa
  generalize firstN (fun x=>x == 93) m=b at hn hb fb
  by_cases hba:b≤a
  · have hnb:n=b:=by omega
    subst hnb
    have hst:stopAt l (1+n+2)=1+n+2+e:=by
      rw [stop_first,he,hm,List.drop_drop]
      rw [show 1+(n+2)=1+n+2 by omega]
    have hae:l[1+n+2+e]?=(m.drop (n+2))[e]?:=by
      rw [show 1+n+2+e=1+(n+2+e) by omega,hat,at_drop]
    rw [hst,hae,show 1+n+1=1+(n+1) by omega,hat]
    by_cases hlt:n < m.length
    · obtain ⟨c,hc,hc2⟩:=fb hlt
      have hcc:c=93:=by simpa using hc2
      subst hcc
      by_cases hR:m[n+1]?=some 40∧(m.drop (n+2))[e]?=some 41
      · rw [if_pos ⟨by omega,by omega,hR⟩,if_pos ⟨hc,hR⟩]
      · rw [if_neg (fun h=>hR h.2.2),if_neg (fun h=>hR h.2)]
    · rw [if_neg (fun h=>by have:=h.1;omega),if_neg (fun h=>by have:=(List.getElem?_eq_some_iff.1 h.1).1;omega)]
  · have hna:n=a:=by omega
    subst hna
    obtain ⟨c,hc,hc2⟩:=fa (by omega)
    have hcc:c=91:=by simpa using hc2
    subst hcc
    rw [if_neg (fun h=>h.2.1 (by omega)),if_neg (fun h=>by rw [hc] at h;have:=h.1;simp at this)]
def linkPV (l:List UInt8):Option (Nat × Nat)→Value
  | some x=>.tuple #[.string ⟨(cut l 1 x.1).toArray⟩,.string ⟨(cut l (x.1+2) x.2).toArray⟩,.bool true]
  | none=>.tuple #[.string ⟨#[]⟩,.string ⟨#[]⟩,.bool false]
end Go.Proofs.YtljcljipppjnoaaGreatDoor
namespace Go.Proofs.YtljcljipppjnoaaGreatDoor
open Go.RowKit Go.Shelf
theorem cut_pre (l:List UInt8) (n:Nat):cut l 1 (1+n)=(l.drop 1).take n:=by
  rw [cut,show 1+n - 1=n by omega]
theorem cut_mid (l:List UInt8) (n e:Nat):cut l (1+n+2) (1+n+2+e)=((l.drop 1).drop (n+2)).take e:=by
  rw [cut,List.drop_drop,show 1+n+2+e - (1+n+2)=e by omega,show 1+(n+2)=1+n+2 by omega]
theorem take_data (s:ByteArray) (n:Nat):(s.extract 0 n).data.toList=s.data.toList.take n:=by
  rw [Lib.extract_data,List.drop_zero,Nat.sub_zero]
set_option maxRecDepth 100000 in
set_option maxHeartbeats 4000000 in
theorem dlink_any (s:ByteArray) (w:World) (h0:s.data.toList[0]?=some 91) (hs:s.size≤1073741824) :
    Calls Tryz.prog 197 #[.string s] w fun e w'=>e=.returned (linkPV s.data.toList (linkS s.data.toList 0))∧Below w.heap.size w w':=by
  have hl:=ba_len s
  have h1:1≤s.size:=by
    have:=(List.getElem?_eq_some_iff.1 h0).1
    omega
  obtain ⟨m,hm⟩:∃ m,m=s.data.toList.drop 1:=⟨_,rfl⟩
  obtain ⟨n,hn⟩:∃ n,n=firstN (fun x=>x == 91 || x == 93) m:=⟨_,rfl⟩
  obtain ⟨e,he⟩:∃ e,e=firstN endsL (m.drop (n+2)):=⟨_,rfl⟩
  have HL:Hid (linkS s.data.toList 0=if m[n]?=some 93∧m[n+1]?=some 40∧(m.drop (n+2))[e]?=some 41 then some (1+n,1+n+2+e) else none):=link_plain s.data.toList h0 m hm n e hn he
  obtain ⟨s1,hs1⟩:∃ s1,s.extract 1 s.size=s1:=⟨_,rfl⟩
  have hd1:s1.data.toList=m:=by rw [← hs1,drop_data,hm]
  have hz1:s1.size=m.length:=by rw [← hd1,ba_len]
  have hmz:m.length=s.size - 1:=by rw [hm,List.length_drop,hl]
  have c1:=fun W=>lv_indexAny s1 ⟨#[91,93]⟩ W (by omega) (by decide) (by decide) (by decide)
  have e1:(⟨#[91,93]⟩:ByteArray).data.toList=[91,93]:=rfl
  rw [e1,hd1,show (fun x=>([91,93]:List UInt8).contains x)=(fun x=>x == 91 || x == 93) from funext ends_of,firstZ,← hn] at c1
  have HI:Hid ((⟨(cut s.data.toList 1 (1+n)).toArray⟩:ByteArray)=s1.extract 0 n):=by
    show _=_
    apply ByteArray.ext
    apply Array.ext'
    rw [take_data,hd1,cut_pre,← hm]
  have HD:Hid (∀ s2:ByteArray,s2.data.toList=m.drop (n+2)→(⟨(cut s.data.toList (1+n+2) (1+n+2+e)).toArray⟩:ByteArray)=s2.extract 0 e):=fun s2 h2=>by
    apply ByteArray.ext
    apply Array.ext'
    rw [take_data,h2,cut_mid,← hm]
  have HLN:(¬ (m[n]?=some 93∧m[n+1]?=some 40∧(m.drop (n+2))[e]?=some 41))→Hid (linkPV s.data.toList (linkS s.data.toList 0)=.tuple #[.string ⟨#[]⟩,.string ⟨#[]⟩,.bool false]):=fun h=>by
    show _=_
    rw [HL.out,if_neg h]
    rfl
  have HLY:(m[n]?=some 93∧m[n+1]?=some 40∧(m.drop (n+2))[e]?=some 41)→∀ s2:ByteArray,s2.data.toList=m.drop (n+2)→Hid (linkPV s.data.toList (linkS s.data.toList 0)=.tuple #[.string (s1.extract 0 n),.string (s2.extract 0 e),.bool true]):=fun h s2 h2=>by
    show _=_
    rw [HL.out,if_pos h,← HI.out,← HD.out s2 h2]
    rfl
  clear HL HI HD e1 hm h0
  generalize linkPV s.data.toList (linkS s.data.toList 0)=V at HLN HLY ⊢
  have hs1z:s1.size≤1073741824:=by omega
  rw [← hz1] at c1
  by_cases hnl:n < s1.size
  · rw [if_pos hnl] at c1
    have cH:=fun W=>lv_prefix (s1.extract n s1.size) ⟨#[93,40]⟩ W
    rw [drop_data,hd1,show (⟨#[93,40]⟩:ByteArray).data.toList=[93,40] from rfl] at cH
    have hpt:=pre_two (m.drop n) 93 40
    rw [← at_drop,← at_drop,Nat.add_zero] at hpt
    cases hb:List.isPrefixOf [93,40] (m.drop n) with
    | false =>
      have HV:=HLN (fun h=>by rw [hpt.2 ⟨h.1,h.2.1⟩] at hb;cases hb)
      rw [hb] at cH
      clear HLN HLY hpt hb hn he hd1 hz1 hmz hl
      go_enter Tryz.func197,Tryz.ntmps197
      go_wp2_with (first | (go_at_call 201;refine (c1 _).mono ?_;rintro e w1 ⟨rfl,b1⟩) | (go_at_call 176;refine (cH _).mono ?_;rintro e w' ⟨rfl,hw⟩;rw [hw];clear hw))
      exact bodyPost_ret (v:=.tuple #[.string ⟨#[]⟩,.string ⟨#[]⟩,.bool false]) (by simp [results,Tryz.results197,go_sem]) rfl ⟨by rw [HV.out],b1⟩
    | true =>
      obtain ⟨hp1,hp2⟩:=hpt.1 hb
      have hn2:n+2≤s1.size:=by
        have:=(List.getElem?_eq_some_iff.1 hp2).1
        omega
      rw [hb] at cH
      obtain ⟨s2,hs2⟩:∃ s2,s1.extract (n+2) s1.size=s2:=⟨_,rfl⟩
      have hd2:s2.data.toList=m.drop (n+2):=by rw [← hs2,drop_data,hd1]
      have hz2:s2.size=m.length - (n+2):=by rw [← ba_len s2,hd2,List.length_drop]
      have c2:=fun W=>lv_indexAny s2 ⟨#[40,41,32,9,10]⟩ W (by omega) (by decide) (by decide) (by decide)
      have e2:(⟨#[40,41,32,9,10]⟩:ByteArray).data.toList=[40,41,32,9,10]:=rfl
      rw [e2,hd2,show (fun x=>([40,41,32,9,10]:List UInt8).contains x)=endsL from funext ends_any,firstZ,← he,← hd2,ba_len] at c2
      rw [← hd2] at HLN HLY
      have HD2:Hid (s2.data.toList=m.drop (n+2)):=hd2
      have hs2z:s2.size≤1073741824:=by omega
      have z2:IntKind.i64.wrap ((n:Int)+2)=(n:Int)+2:=wrap_small _ (by omega) (by omega)
      have z3:(n:Int)+2≤(s1.size:Int):=by omega
      have z4:(n:Int)≤(s1.size:Int):=by omega
      have z5:((n:Int)+2).toNat=n+2:=by omega
      by_cases hel:e < s2.size
      · rw [if_pos hel] at c2
        have hat:s2.data.toList[e]?=some s2[e]:=at_some s2 e hel
        have t41:=u8_eq s2[e] 41
        by_cases h41:s2[e]=41
        · have HV:=HLY ⟨hp1,hp2,by rw [hat,h41]⟩ s2 rfl
          have g41:((s2[e].toNat:Int) != 41)=false:=by rw [h41];rfl
          clear HLN HLY hpt hb hn he hd1 hd2 hz1 hmz hl hz2 hat t41 h41 e2 hp1 hp2 HD2
          go_enter Tryz.func197,Tryz.ntmps197
          go_wp2_with (first | (go_at_call 201;refine (c1 _).mono ?_;rintro e w1 ⟨rfl,b1⟩) | (go_at_call 176;refine (cH _).mono ?_;rintro e w' ⟨rfl,hw⟩;rw [hw];clear hw))
          go_region
          go_wp2_with (go_at_call 201;refine (c2 _).mono ?_;rintro e w2 ⟨rfl,b2⟩)
          have bb:Below w.heap.size w w2:=(b1.drew).trans (b2.mono b1.size)
          have z6:(e:Int)≤(s2.size:Int):=by omega
          go_region
          all_goals go_wp2
          all_goals exact bodyPost_ret (v:=.tuple #[.string (s1.extract 0 n),.string (s2.extract 0 e),.bool true]) (by simp [results,Tryz.results197,go_sem]) rfl ⟨by rw [HV.out],bb.drew⟩
        · have HV:=HLN (fun h=>h41 (by have:=h.2.2;rw [hat] at this;exact Option.some.inj this))
          have g41:((s2[e].toNat:Int) != 41)=true:=by rw [bne,show ((s2[e].toNat:Int) == 41)=(s2[e] == 41) from t41,beq_eq_false_iff_ne.2 h41];rfl
          clear HLN HLY hpt hb hn he hd1 hd2 hz1 hmz hl hz2 hat t41 h41 e2 hp1 hp2 HD2
          go_enter Tryz.func197,Tryz.ntmps197
          go_wp2_with (first | (go_at_call 201;refine (c1 _).mono ?_;rintro e w1 ⟨rfl,b1⟩) | (go_at_call 176;refine (cH _).mono ?_;rintro e w' ⟨rfl,hw⟩;rw [hw];clear hw))
          go_region
          go_wp2_with (go_at_call 201;refine (c2 _).mono ?_;rintro e w2 ⟨rfl,b2⟩)
          have bb:Below w.heap.size w w2:=(b1.drew).trans (b2.mono b1.size)
          exact bodyPost_ret (v:=.tuple #[.string ⟨#[]⟩,.string ⟨#[]⟩,.bool false]) (by simp [results,Tryz.results197,go_sem]) rfl ⟨by rw [HV.out],bb⟩
      · rw [if_neg hel] at c2
        have HV:=HLN (fun h=>hel (by have:=(List.getElem?_eq_some_iff.1 h.2.2).1;rw [ba_len] at this;exact this))
        clear HLN HLY hpt hb hn he hd1 hd2 hz1 hmz hl hz2 e2 hp1 hp2 HD2
        go_enter Tryz.func197,Tryz.ntmps197
        go_wp2_with (first | (go_at_call 201;refine (c1 _).mono ?_;rintro e w1 ⟨rfl,b1⟩) | (go_at_call 176;refine (cH _).mono ?_;rintro e w' ⟨rfl,hw⟩;rw [hw];clear hw))
        go_region
        go_wp2_with (go_at_call 201;refine (c2 _).mono ?_;rintro e w2 ⟨rfl,b2⟩)
        have bb:Below w.heap.size w w2:=(b1.drew).trans (b2.mono b1.size)
        exact bodyPost_ret (v:=.tuple #[.string ⟨#[]⟩,.string ⟨#[]⟩,.bool false]) (by simp [results,Tryz.results197,go_sem]) rfl ⟨by rw [HV.out],bb⟩
  · rw [if_neg hnl] at c1
    have HV:=HLN (fun h=>hnl (by rw [hz1];exact (List.getElem?_eq_some_iff.1 h.1).1))
    clear HLN HLY hn he hd1 hz1 hmz hl
    go_enter Tryz.func197,Tryz.ntmps197
    go_wp2_with (go_at_call 201;refine (c1 _).mono ?_;rintro e w1 ⟨rfl,b1⟩)
    exact bodyPost_ret (v:=.tuple #[.string ⟨#[]⟩,.string ⟨#[]⟩,.bool false]) (by simp [results,Tryz.results197,go_sem]) rfl ⟨by rw [HV.out],b1⟩
end Go.Proofs.YtljcljipppjnoaaGreatDoor
