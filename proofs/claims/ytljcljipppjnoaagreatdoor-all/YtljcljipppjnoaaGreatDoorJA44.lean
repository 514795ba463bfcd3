namespace Go.Proofs.YtljcljipppjnoaaGreatDoor
structure Run (one:Bool) (fa la li:Int) (page:List UInt8) (of tk:Nat) (got left rest:List UInt8):Prop where
  fail:fa < 1∨(of:Int) < fa∨(la=fa∧la≤of)
  straight:(la < 1∨(of:Int) < la)→got++(left++rest)=page∧tk=got.length
  past:1≤la→la≤of→1≤li∧li≤16∧∃ g:Nat,li+g≤page.length∧(one=true→(g:Int)=la - 1)
  sum:tk+(left.length+rest.length)=page.length
  ones:one=true→got.length=of
  ge:of≤got.length
  tk_ge:of≤tk
  gl:got.length≤16 * of
structure Bad (one:Bool) (fa la li:Int) (page:List UInt8) (wr:Bool) (of N:Nat) (got:List UInt8):Prop where
  kind:(wr=true∧(of:Int)=fa∧(of:Int) ≠ la)∨(wr=false∧(of:Int)=la)
  pos:1≤of
  pre:(la < 1∨(of:Int)≤la)→got <+: page∧N≤got.length∧(one=true→N+1=of)
  past:1≤la→la < of→1≤li∧li≤16
  lt:N < page.length
theorem Run.start (one:Bool) (fa la li:Int) (page:List UInt8):Run one fa la li page 0 0 [] [] page:=by
  refine ⟨?_,fun _=>⟨rfl,rfl⟩,fun h1 h2=>?_,?_,fun _=>rfl,Nat.le_refl _,Nat.le_refl _,Nat.le_refl _⟩
  · omega
  · omega
  · simp
theorem Run.piece {one:Bool} {fa la li:Int} {page:List UInt8} {of tk:Nat} {got left p rest:List UInt8} (h:Run one fa la li page of tk got left (p++rest)):Run one fa la li page of tk got (left++p) rest:=by
  refine ⟨h.fail,fun hs=>?_,h.past,?_,h.ones,h.ge,h.tk_ge,h.gl⟩
  · obtain ⟨h1,h2⟩:=h.straight hs
    exact ⟨by rw [List.append_assoc];exact h1,h2⟩
  · have:=h.sum
    simp only [List.length_append] at this ⊢
    omega
theorem Run.took {one:Bool} {fa la li:Int} {page:List UInt8} {of tk:Nat} {got left rest:List UInt8} (h:Run one fa la li page of tk got left rest) (m:Nat) (hm:1≤m∧m≤left.length∧m≤16) (h1:one=true→m=1)
    (hl:((of+1:Nat):Int) ≠ la) (hf:((of+1:Nat):Int) ≠ fa):Run one fa la li page (of+1) (tk+m) (got++left.take m) (left.drop m) rest:=by
  have hs:=h.sum
  have ht:(left.take m).length=m:=by rw [List.length_take];omega
  refine ⟨?_,fun hh=>?_,fun a b=>h.past a (by omega),?_,fun ho=>?_,?_,?_,?_⟩
  · have:=h.fail
    omega
  · obtain ⟨a,b⟩:=h.straight (by omega)
    refine ⟨?_,?_⟩
    · rw [List.append_assoc,← List.append_assoc (left.take m),List.take_append_drop]
      exact a
    · rw [List.length_append,ht]
      omega
  · rw [List.length_drop]
    omega
  · rw [List.length_append,ht,h.ones ho,h1 ho]
  · have:=h.ge
    rw [List.length_append,ht]
    omega
  · have:=h.tk_ge
    omega
  · have:=h.gl
    rw [List.length_append,ht]
    omega
theorem Run.lied {one:Bool} {fa la li:Int} {page:List UInt8} {of tk:Nat} {got left rest:List UInt8} (h:Run one fa la li page of tk got left rest) (m k:Nat) (hm:1≤m∧m≤left.length∧m≤16) (h1:one=true→m=1)
    (hl:((of+1:Nat):Int)=la) (hk:(k:Int)=li) (hk1:1≤k∧k≤left.length∧k≤16):Run one fa la li page (of+1) (tk+k) (got++left.take m) (left.drop k) rest:=by
  have hs:=h.sum
  have ht:(left.take m).length=m:=by rw [List.length_take];omega
  obtain ⟨a,b⟩:=h.straight (by omega)
  refine ⟨?_,fun hh=>by omega,fun _ _=>⟨by omega,by omega,tk,by omega,fun ho=>?_⟩,?_,fun ho=>?_,?_,?_,?_⟩
  · have:=h.fail
    omega
  · have:=h.ones ho
    omega
  · rw [List.length_drop]
    omega
  · rw [List.length_append,ht,h.ones ho,h1 ho]
  · have:=h.ge
    rw [List.length_append,ht]
    omega
  · have:=h.tk_ge
    omega
  · have:=h.gl
    rw [List.length_append,ht]
    omega
theorem Run.le {one:Bool} {fa la li:Int} {page:List UInt8} {of tk:Nat} {got left rest:List UInt8} (h:Run one fa la li page of tk got left rest):tk≤page.length:=by
  have:=h.sum
  omega
theorem Run.bad {one:Bool} {fa la li:Int} {page:List UInt8} {of tk:Nat} {got left rest:List UInt8} (h:Run one fa la li page of tk got left rest) (m:Nat) (wr:Bool) (hl:1≤left.length)
    (hk:(wr=true∧((of+1:Nat):Int)=fa∧((of+1:Nat):Int) ≠ la)∨(wr=false∧((of+1:Nat):Int)=la)):Bad one fa la li page wr (of+1) tk (got++left.take m):=by
  refine ⟨hk,by omega,fun hh=>?_,fun a b=>?_,by have:=h.sum;omega⟩
  · obtain ⟨a,b⟩:=h.straight (by omega)
    refine ⟨?_,by rw [List.length_append];omega,fun ho=>by rw [b,h.ones ho]⟩
    refine ⟨left.drop m++rest,?_⟩
    rw [List.append_assoc,← List.append_assoc (left.take m),List.take_append_drop]
    exact a
  · obtain ⟨c,d,_⟩:=h.past a (by omega)
    exact ⟨c,d⟩
theorem Run.all {one:Bool} {fa la li:Int} {page:List UInt8} {of tk:Nat} {got:List UInt8} (h:Run one fa la li page of tk got [] []) (hs:la < 1∨(of:Int) < la):got=page∧tk=page.length:=by
  obtain ⟨a,b⟩:=h.straight hs
  simp at a
  exact ⟨a,by rw [b,a]⟩
end Go.Proofs.YtljcljipppjnoaaGreatDoor
