import Derived.Test.YtghpdhegfnhmkaaGreatDoorS16
namespace Go.Proofs.YtghpdhegfnhmkaaGreatDoor
open Go.RowKit
def blocksOf (gm:Nat) (gs:Nat->Nat) (r:Nat) (k:Nat):Prop:=k=gm∨∃ i,i < r/\gs i=k
theorem OwnG.blocks {w:World} {B gm:Nat} {gs:Nat->Nat} {r n:Nat} {f:Nat->Nat->Nat} (h:OwnG w B gm gs r n f):∀ k,blocksOf gm gs r k->B<=k/\k < w.heap.size:=fun k hk=>by
 rcases hk with rfl | ⟨i,hi,rfl⟩
 ·exact h.rows.lt
 ·exact (h.all.row i hi).lt
theorem dotN_fsum {A B:List (List Nat)} (hA:BytesM A) (hB:BytesM B) (i j:Nat):∀ k,toF (dotN A B i j k)=Lin.fsum k (fun t=>Lin.mu (vec A i t) (vec B t j))
 | 0=>rfl
 | k+1=>by
  show toF (dotN A B i j k ^^^ Gf.mul (Gf.nth (rowOf A i) k) (Gf.nth (rowOf B k) j))=Lin.ad _ _
  rw [toF_ad (dotN_lt A B hA i j k) (Gf.mul_lt (hA i k) _),toF_mu (hA i k) (hB k j),dotN_fsum hA hB i j k]
  rfl
theorem toF_inj {x y:Nat} (hx:x < 256) (hy:y < 256) (h:toF x=toF y):x=y:=by
 have:=congrArg Fin.val h
 rw [toF_val hx,toF_val hy] at this
 exact this
theorem matFn_bytes {r n:Nat} {f:Nat->Nat->Nat} (h:∀ i j,f i j < 256):BytesM (matFn r n f):=fun i=>by
 by_cases hi:i < r
 ·rw [rowOf_matFn r n f i hi];exact rowFn_bytes _ _ (h i)
 ·intro j
  have:rowOf (matFn r n f) i=[]:=by unfold rowOf;rw [List.getD_eq_getElem?_getD,List.getElem?_eq_none (by rw [matFn_length];omega)];rfl
  rw [this]
  show ([]:List Nat).getD j 0 < 256
  simp
theorem vec_matFn {r n:Nat} {f:Nat->Nat->Nat} {i j:Nat} (hi:i < r) (hj:j < n):vec (matFn r n f) i j=vecF f i j:=by
 unfold vec vecF
 rw [rowOf_matFn r n f i hi,nth_rowFn _ _ j hj]
theorem isMat_matFn {r n:Nat} {f:Nat->Nat->Nat} (h1:1<=r) (h2:r<=16) (h3:1<=n) (h4:n<=16):IsMat (matFn r n f):=by
 refine ⟨by rw [matFn_length];exact h1,by rw [matFn_length];exact h2,fun i hi=>?_⟩
 rw [matFn_length] at hi
 rw [rowOf_matFn r n f i hi,rowOf_matFn r n f 0 (by omega),rowFn_length,rowFn_length]
 exact ⟨h3,h4,rfl⟩
theorem prodM_fn (A B:List (List Nat)) (m:Nat):prodM A B m=matFn m (rowOf B 0).length (fun i j=>dotN A B i j B.length):=rfl
theorem mat_cells {w:World} {p:Option Addr} {r n:Nat} {f:Nat->Nat->Nat} (h:Mat w p (matFn r n f)) (hr:1<=r) (hn:1<=n):∃ b o,p=some ⟨b,o,none⟩/\∀ i,i < r->∃ b1 o1 c,w.cell? ⟨b,o+i,none⟩=some (.slice (some ⟨b1,o1,none⟩) n c)/\∀ j,j < n->w.cell? ⟨b1,o1+j,none⟩=some (.int .u8 ((f i j:Nat):Int)):=by
 have ln:∀ i,i < r->(rowOf (matFn r n f) i).length=n:=fun i hi=>by rw [rowOf_matFn r n f i hi,rowFn_length]
 obtain ⟨b,o,_,_,_,hp,_,_,_,_⟩:=h.row (i:=0) (by rw [matFn_length];omega) (by rw [ln 0 (by omega)];omega)
 refine ⟨b,o,hp,fun i hi=>?_⟩
 obtain ⟨b',o',b1,o1,c,hp',_,_,h1,h2⟩:=h.row (i:=i) (by rw [matFn_length];omega) (by rw [ln i hi];omega)
 rw [hp] at hp'
 injection hp' with hp'
 injection hp' with e1 e2 _
 subst e1 e2
 rw [ln i hi] at h1
 refine ⟨b1,o1,c,h1,fun j hj=>?_⟩
 rw [h2 j (by rw [ln i hi];exact hj),rowOf_matFn r n f i hi,nth_rowFn _ _ j hj]
end Go.Proofs.YtghpdhegfnhmkaaGreatDoor
