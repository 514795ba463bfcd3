import Derived.Test.YtljcljipppjnoaaGreatDoorJA02
import Derived.Deep.QuietTactic
import Derived.BigQuiet
namespace Go.Proofs.YtljcljipppjnoaaGreatDoor
open Go.RowKit
set_option maxRecDepth 100000 in
set_option maxHeartbeats 2000000 in
theorem same_some (g1 c1 g2 c2:Nat) (evs:List Ev) (w:World) (hlen:evs.length≤1099511627776)
    (h1:∀ (j:Nat) u,(evCs evs)[j]?=some u→w.cell? ⟨g1,j,none⟩=some u) (h2:∀ (j:Nat) u,(evCs evs)[j]?=some u→w.cell? ⟨g2,j,none⟩=some u) (l1:g1 < w.heap.size) (l2:g2 < w.heap.size) :
    Calls Tryz.prog 16 #[.slice (some ⟨g1,0,none⟩) evs.length c1,.slice (some ⟨g2,0,none⟩) evs.length c2] w fun e w'=>e=.returned (.bool true)∧Below w.heap.size w w':=by
  have H1:Hid _:=h1
  have H2:Hid _:=h2
  clear h1 h2
  go_enter Tryz.func16,Tryz.ntmps16
  go_wp2
  go_loopw [5] (fun i wr=>∃ k:Nat,k≤evs.length∧i=.int .i64 k∧Below w.heap.size w wr) (fun i _=>evs.length - (intOf i).toNat)
  case atStart=>exact ⟨0,Nat.zero_le _,rfl,Below.refl _ _⟩
  case round =>
    obtain ⟨k,hk,rfl,hbel⟩:=hrel
    by_cases hlt:k < evs.length
    · obtain ⟨ev,hev⟩:∃ ev,evs[k]?=some ev:=⟨evs[k],List.getElem?_eq_getElem hlt⟩
      obtain ⟨q0,q1,q2,q3⟩:=evCs_at evs k ev hev
      have a0:=(hbel.cell (p:=⟨g1,k * 4,none⟩) l1).trans (H1.out _ _ q0)
      have a1:=(hbel.cell (p:=⟨g1,k * 4+1,none⟩) l1).trans (H1.out _ _ q1)
      have a2:=(hbel.cell (p:=⟨g1,k * 4+2,none⟩) l1).trans (H1.out _ _ q2)
      have a3:=(hbel.cell (p:=⟨g1,k * 4+3,none⟩) l1).trans (H1.out _ _ q3)
      have b0:=(hbel.cell (p:=⟨g2,k * 4,none⟩) l2).trans (H2.out _ _ q0)
      have b1:=(hbel.cell (p:=⟨g2,k * 4+1,none⟩) l2).trans (H2.out _ _ q1)
      have b2:=(hbel.cell (p:=⟨g2,k * 4+2,none⟩) l2).trans (H2.out _ _ q2)
      have b3:=(hbel.cell (p:=⟨g2,k * 4+3,none⟩) l2).trans (H2.out _ _ q3)
      have hlt':(k:Int) < (evs.length:Int):=by omega
      clear q0 q1 q2 q3 hev H1 H2
      obtain ⟨ek,ef,el,et⟩:=ev
      simp only at a0 a1 a2 a3 b0 b1 b2 b3
      generalize (⟨et.toArray⟩:ByteArray)=tt at a3 b3
      go_wp2_with fail
      go_quiet (fail)
      go_wp2
      go_roundw
      case rel=>exact ⟨k+1,by omega,by go_num,⟨hbel.os,hbel.tape,hbel.output,hbel.size,hbel.block⟩⟩
      case measure=>simp [intOf];omega
    · go_wp2
      go_ret
      exact ⟨rfl,hbel⟩
set_option maxRecDepth 100000 in
set_option maxHeartbeats 1000000 in
theorem same_none (a1 a2:Option Addr) (c1 c2:Nat) (w:World) :
    Calls Tryz.prog 16 #[.slice a1 0 c1,.slice a2 0 c2] w fun e w'=>e=.returned (.bool true)∧Below w.heap.size w w':=by
  go_enter Tryz.func16,Tryz.ntmps16
  go_wp2
  go_loopw [5] (fun i wr=>i=.int .i64 0∧wr=w) (fun _ _=>0)
  case atStart=>exact ⟨rfl,rfl⟩
  case round =>
    obtain ⟨rfl,rfl⟩:=hrel
    go_wp2
    go_ret
    exact ⟨rfl,Below.refl _ _⟩
theorem same_any (B1 B2:Nat) (v1 v2:Value) (evs:List Ev) (w:World) (hlen:evs.length≤1099511627776) (o1:w.ownsRow B1 39 4 v1 evs.length (evCs evs)) (o2:w.ownsRow B2 83 4 v2 evs.length (evCs evs)) :
    Calls Tryz.prog 16 #[v1,v2] w fun e w'=>e=.returned (.bool true)∧Below w.heap.size w w':=by
  have hf:∀ {B:Nat} {t:TypeId} {v:Value},w.ownsRow B t 4 v evs.length (evCs evs)→(v=.slice none 0 0∧evs.length=0)∨∃ g cap,v=.slice (some ⟨g,0,none⟩) evs.length cap∧g < w.heap.size∧∀ (j:Nat) u,(evCs evs)[j]?=some u→w.cell? ⟨g,j,none⟩=some u:=by
    intro B t v h
    rcases h.2 with h0 | ⟨g,cap,cur,hv,_,hg,_,_,_,_⟩
    · exact Or.inl h0
    · refine Or.inr ⟨g,cap,hv,lt_of_block hg,fun j u hj=>?_⟩
      have:=h.cells (g:=g) (by rw [hv];rfl) j u hj
      rw [Addr.add_lit] at this
      simpa using this
  rcases hf o1 with ⟨rfl,n1⟩ | ⟨g1,c1,rfl,l1,h1⟩
  · rcases hf o2 with ⟨rfl,n2⟩ | ⟨g2,c2,rfl,l2,h2⟩
    · exact same_none _ _ _ _ _
    · rw [n1]
      exact same_none _ _ _ _ _
  · rcases hf o2 with ⟨rfl,n2⟩ | ⟨g2,c2,rfl,l2,h2⟩
    · rw [n2]
      exact same_none _ _ _ _ _
    · exact same_some g1 c1 g2 c2 evs w hlen h1 h2 l1 l2
end Go.Proofs.YtljcljipppjnoaaGreatDoor
namespace Go.Proofs.YtljcljipppjnoaaGreatDoor
open Go.RowKit
set_option maxRecDepth 100000 in
set_option maxHeartbeats 2000000 in
theorem same_at (g1 c1 g2 o2 c2:Nat) (evs:List Ev) (w:World) (hlen:evs.length≤1099511627776)
    (h1:∀ (j:Nat) u,(evCs evs)[j]?=some u→w.cell? ⟨g1,j,none⟩=some u) (h2:∀ (j:Nat) u,(evCs evs)[j]?=some u→w.cell? ⟨g2,o2+j,none⟩=some u) (l1:g1 < w.heap.size) (l2:g2 < w.heap.size) :
    Calls Tryz.prog 16 #[.slice (some ⟨g1,0,none⟩) evs.length c1,Value.slice (some ⟨g2,o2,none⟩) evs.length c2] w fun e w'=>e=.returned (.bool true)∧Below w.heap.size w w':=by
  have H1:Hid _:=h1
  have H2:Hid _:=h2
  clear h1 h2
  go_enter Tryz.func16,Tryz.ntmps16
  go_wp2
  go_loopw [5] (fun i wr=>∃ k:Nat,k≤evs.length∧i=.int .i64 k∧Below w.heap.size w wr) (fun i _=>evs.length - (intOf i).toNat)
  case atStart=>exact ⟨0,Nat.zero_le _,rfl,Below.refl _ _⟩
  case round =>
    obtain ⟨k,hk,rfl,hbel⟩:=hrel
    by_cases hlt:k < evs.length
    · obtain ⟨ev,hev⟩:∃ ev,evs[k]?=some ev:=⟨evs[k],List.getElem?_eq_getElem hlt⟩
      obtain ⟨q0,q1,q2,q3⟩:=evCs_at evs k ev hev
      have a0:=(hbel.cell (p:=⟨g1,k * 4,none⟩) l1).trans (H1.out _ _ q0)
      have a1:=(hbel.cell (p:=⟨g1,k * 4+1,none⟩) l1).trans (H1.out _ _ q1)
      have a2:=(hbel.cell (p:=⟨g1,k * 4+2,none⟩) l1).trans (H1.out _ _ q2)
      have a3:=(hbel.cell (p:=⟨g1,k * 4+3,none⟩) l1).trans (H1.out _ _ q3)
      have b0:=(hbel.cell (p:=⟨g2,o2+k * 4,none⟩) l2).trans (H2.out _ _ q0)
      have b1:=(hbel.cell (p:=⟨g2,o2+k * 4+1,none⟩) l2).trans ((by rw [Nat.add_assoc];exact H2.out _ _ q1:w.cell? ⟨g2,o2+k * 4+1,none⟩=some (.bool ev.fin)))
      have b2:=(hbel.cell (p:=⟨g2,o2+k * 4+2,none⟩) l2).trans ((by rw [Nat.add_assoc];exact H2.out _ _ q2:w.cell? ⟨g2,o2+k * 4+2,none⟩=some (.int .i64 ev.level)))
      have b3:=(hbel.cell (p:=⟨g2,o2+k * 4+3,none⟩) l2).trans ((by rw [Nat.add_assoc];exact H2.out _ _ q3:w.cell? ⟨g2,o2+k * 4+3,none⟩=some (.string ⟨ev.text.toArray⟩)))
      have hlt':(k:Int) < (evs.length:Int):=by omega
      clear q0 q1 q2 q3 hev H1 H2
      obtain ⟨ek,ef,el,et⟩:=ev
      simp only at a0 a1 a2 a3 b0 b1 b2 b3
      generalize (⟨et.toArray⟩:ByteArray)=tt at a3 b3
      go_wp2_with fail
      go_quiet (fail)
      go_wp2
      go_roundw
      case rel=>exact ⟨k+1,by omega,by go_num,⟨hbel.os,hbel.tape,hbel.output,hbel.size,hbel.block⟩⟩
      case measure=>simp [intOf];omega
    · go_wp2
      go_ret
      exact ⟨rfl,hbel⟩
end Go.Proofs.YtljcljipppjnoaaGreatDoor
namespace Go.Proofs.YtljcljipppjnoaaGreatDoor
open Go.RowKit
def keepL:List UInt8:=[45,46,95,126,47,63,35,61,58,43,44,59,64,33,36,39,40,41,42,37]
def hexL:List UInt8:=[48,49,50,51,52,53,54,55,56,57,65,66,67,68,69,70]
def keepN (n:Nat):Bool:=(decide (48≤n) && decide (n≤57)) || (decide (97≤n) && decide (n≤122)) || (decide (65≤n) && decide (n≤90))
def whereC (c:UInt8):List UInt8 :=
  if c=38 then [38,97,109,112,59] else if decide (0≤foundZ keepL c 0) || keepN c.toNat then [c] else [37]++cutH (c.toNat / 16)++cutH (c.toNat % 16)
where cutH (k:Nat):List UInt8:=(hexL.drop k).take 1
def whereL (l:List UInt8):List UInt8:=l.flatMap whereC
theorem where_snoc (l:List UInt8) (c:UInt8):whereL (l++[c])=whereL l++whereC c:=by simp [whereL]
theorem hex_cut (k:Nat) (h:k < 16):(⟨hexL.toArray⟩:ByteArray).extract k (k+1)=⟨(whereC.cutH k).toArray⟩:=by
  have hk:k < (⟨hexL.toArray⟩:ByteArray).size:=h
  rw [one_cut _ k hk]
  have e:∀ j:Fin 16,[hexL[j.val]'(j.isLt)]=whereC.cutH j.val:=by decide
  exact congrArg (fun l:List UInt8=>(⟨l.toArray⟩:ByteArray)) (e ⟨k,h⟩)
set_option maxRecDepth 100000 in
set_option maxHeartbeats 2000000 in
theorem rwhere_any (s:ByteArray) (w:World) (hs:s.size≤1099511627776) :
    Calls Tryz.prog 73 #[.string s] w fun e w'=>e=.returned (.string ⟨(whereL s.data.toList).toArray⟩)∧Below w.heap.size w w':=by
  have hl:=ba_len s
  go_enter Tryz.func73,Tryz.ntmps73
  go_wp2
  go_loopw [5,6] (fun t i wr=>∃ (k:Nat) (acc:List UInt8),k≤s.size∧i=.int .i64 k∧t=.string ⟨acc.toArray⟩∧Hid (acc=whereL (s.data.toList.take k))∧acc.length≤6 * k∧Below w.heap.size w wr) (fun _ i _=>s.size - (intOf i).toNat)
  case atStart=>exact ⟨0,[],Nat.zero_le _,rfl,rfl,(by show _=_;rfl),Nat.le_refl _,Below.refl _ _⟩
  case round =>
    obtain ⟨k,acc,hk,rfl,rfl,HA,hal,hbel⟩:=hrel
    have hs1:=size_of acc
    by_cases hlt:k < s.size
    · have HS:Hid (whereL (s.data.toList.take (k+1))=acc++whereC s[k]):=by
        show _=_
        rw [take_snoc s k hlt,where_snoc,HA.out]
      have c1:=fun W=>rfind_any ⟨keepL.toArray⟩ s[k] 0 W (by decide) (by decide)
      have e1:(⟨keepL.toArray⟩:ByteArray).data.toList=keepL:=rfl
      rw [e1] at c1
      unfold keepL at c1
      by_cases h38:s[k]=38
      · have g:((s[k].toNat:Int) == 38)=true:=by rw [h38];rfl
        have HE:Hid (acc++[38,97,109,112,59]=whereL (s.data.toList.take (k+1))):=by show _=_;rw [HS.out,whereC,if_pos h38]
        generalize foundZ _ s[k] 0=zk at c1
        clear HS HA h38 e1
        go_wp2_with (go_at_call 94;refine (c1 _).mono ?_;rintro e w' ⟨rfl,hw⟩;rw [hw];clear hw)
        go_roundw
        case rel=>exact ⟨k+1,acc++[38,97,109,112,59],by omega,by go_num,congrArg Value.string (ba_app acc _),HE,by simp;omega,hbel⟩
        case measure=>simp [intOf];omega
      have g38:((s[k].toNat:Int) == 38)=false:=(u8_eq s[k] 38).trans (beq_eq_false_iff_ne.2 h38)
      have HX:Hid (s.extract k (k+1)=⟨[s[k]].toArray⟩):=one_cut s k hlt
      have hxs:(s.extract k (k+1)).size=1:=by rw [one_cut s k hlt];rfl
      have hw1:whereC s[k]=if decide (0≤foundZ keepL s[k] 0) || keepN s[k].toNat then [s[k]] else [37]++whereC.cutH (s[k].toNat / 16)++whereC.cutH (s[k].toNat % 16):=by rw [whereC,if_neg h38]
      have hz:foundZ keepL s[k] 0=-1∨0≤foundZ keepL s[k] 0:=by unfold foundZ;split <;> omega
      unfold keepL at hw1 hz
      generalize foundZ _ s[k] 0=zk at c1 hw1 hz
      rw [hw1] at HS
      have hn:=s[k].toNat_lt
      rcases hz with rfl | hz
      · have hd:decide ((0:Int)≤-1)=false:=by decide
        rw [hd,Bool.false_or] at HS
        have hq:(keepN s[k].toNat=true∧((48≤s[k].toNat∧s[k].toNat≤57)∨(97≤s[k].toNat∧s[k].toNat≤122)∨(65≤s[k].toNat∧s[k].toNat≤90)))∨(keepN s[k].toNat=false∧(s[k].toNat < 48∨(58≤s[k].toNat∧s[k].toNat < 65)∨(91≤s[k].toNat∧s[k].toNat < 97)∨123≤s[k].toNat)):=by
          unfold keepN
          by_cases h:(48≤s[k].toNat∧s[k].toNat≤57)∨(97≤s[k].toNat∧s[k].toNat≤122)∨(65≤s[k].toNat∧s[k].toNat≤90)
          · exact Or.inl ⟨by simp;omega,h⟩
          · exact Or.inr ⟨by simp;omega,by omega⟩
        rcases hq with ⟨hkn,hr⟩ | ⟨hkn,hr⟩
        · rw [hkn,if_pos rfl] at HS
          have HE:Hid (acc++[s[k]]=whereL (s.data.toList.take (k+1))):=by show _=_;rw [HS.out]
          clear HS HA h38 e1 hw1 hkn hd
          rcases hr with ⟨r1,r2⟩ | ⟨r1,r2⟩ | ⟨r1,r2⟩
          all_goals
            go_wp2_with (go_at_call 94;refine (c1 _).mono ?_;rintro e w' ⟨rfl,hw⟩;rw [hw];clear hw)
            go_roundw
            case rel=>exact ⟨k+1,acc++[s[k]],by omega,by go_num,by rw [HX.out];exact congrArg Value.string (ba_app acc [s[k]]),HE,by simp;omega,hbel⟩
            case measure=>simp [intOf];omega
        · rw [hkn,if_neg (by simp)] at HS
          have HE:Hid (acc++([37]++whereC.cutH (s[k].toNat / 16)++whereC.cutH (s[k].toNat % 16))=whereL (s.data.toList.take (k+1))):=by show _=_;rw [HS.out]
          clear HS HA h38 e1 hw1 hkn hd HX hxs
          have hd16:s[k].toNat / 16 < 16:=by omega
          have hm16:s[k].toNat % 16 < 16:=by omega
          have HV:Value.string ((⟨acc.toArray⟩:ByteArray)++⟨#[37]⟩++(⟨hexL.toArray⟩:ByteArray).extract (s[k].toNat / 16) (s[k].toNat / 16+1)++(⟨hexL.toArray⟩:ByteArray).extract (s[k].toNat % 16) (s[k].toNat % 16+1))=Value.string ⟨(acc++([37]++whereC.cutH (s[k].toNat / 16)++whereC.cutH (s[k].toNat % 16))).toArray⟩:=by
            rw [hex_cut _ hd16,hex_cut _ hm16]
            have e37:(⟨#[37]⟩:ByteArray)=⟨[(37:UInt8)].toArray⟩:=rfl
            rw [e37,ba_app,ba_app,ba_app,List.append_assoc,List.append_assoc,List.append_assoc]
          have hlen:(acc++([37]++whereC.cutH (s[k].toNat / 16)++whereC.cutH (s[k].toNat % 16))).length≤6 * (k+1):=by
            have l1:(whereC.cutH (s[k].toNat / 16)).length≤1:=List.length_take_le ..
            have l2:(whereC.cutH (s[k].toNat % 16)).length≤1:=List.length_take_le ..
            simp only [List.length_append,List.length_cons,List.length_nil]
            omega
          rcases hr with r1 | ⟨r1,r2⟩ | ⟨r1,r2⟩ | r1
          all_goals
            go_wp2_with (go_at_call 94;refine (c1 _).mono ?_;rintro e w' ⟨rfl,hw⟩;rw [hw];clear hw)
            go_quiet (fail)
            go_wp2
            go_roundw
            case rel=>exact ⟨k+1,acc++([37]++whereC.cutH (s[k].toNat / 16)++whereC.cutH (s[k].toNat % 16)),by omega,by go_num,HV,HE,hlen,⟨hbel.os,hbel.tape,hbel.output,hbel.size,hbel.block⟩⟩
            case measure=>simp [intOf];omega
      · have hd:decide ((0:Int)≤zk)=true:=by simpa using hz
        rw [hd,Bool.true_or,if_pos rfl] at HS
        have HE:Hid (acc++[s[k]]=whereL (s.data.toList.take (k+1))):=by show _=_;rw [HS.out]
        clear HS HA h38 e1 hw1
        go_wp2_with (go_at_call 94;refine (c1 _).mono ?_;rintro e w' ⟨rfl,hw⟩;rw [hw];clear hw)
        go_roundw
        case rel=>exact ⟨k+1,acc++[s[k]],by omega,by go_num,by rw [HX.out];exact congrArg Value.string (ba_app acc [s[k]]),HE,by simp;omega,hbel⟩
        case measure=>simp [intOf];omega
    · have HF:Hid (acc=whereL s.data.toList):=by
        show _=_
        rw [HA.out,List.take_of_length_le (by omega)]
      go_wp2
      go_ret
      rw [← HF.out]
      exact ⟨rfl,hbel⟩
end Go.Proofs.YtljcljipppjnoaaGreatDoor
