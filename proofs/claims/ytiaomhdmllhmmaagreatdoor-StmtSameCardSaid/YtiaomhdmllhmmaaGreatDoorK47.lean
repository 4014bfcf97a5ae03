import Derived.Test.YtiaomhdmllhmmaaGreatDoorK44
import Derived.Test.YtiaomhdmllhmmaaGreatDoorK45
import Derived.Test.YtiaomhdmllhmmaaGreatDoorK46
import Derived.Test.YtiaomhdmllhmmaaGreatDoorK18
import Derived.Test.YtiaomhdmllhmmaaGreatDoorK23
namespace Go.Proofs.YtiaomhdmllhmmaaGreatDoor.Sm
open Go.RowKit Mem Ep Right Go.ChangeShapes Go.WideShapes
set_option linter.unusedVariables false
set_option maxRecDepth 100000 in
set_option maxHeartbeats 16000000 in
theorem refSame_st:∀x:St,SameD 11 stDt x:=by
 refine St.byKids fun aA aB aC aD aX aN aY aO bB aP aQ aE aF aG aR ih=>?_
 intro y cs ds w h1 h2
 obtain ⟨cT,cS,cR,cO,aZ,aS,bA,aT,bC,aU,aV,cL,cI,cH,aW⟩:=y
 obtain ⟨r4u,r5u,r6u,r7u,eu,r9u,r10u,r14u,rfl,⟨bT,bU,rfl,l4u,m4u, -,dK⟩,⟨bV,bH,rfl,l5u,m5u, -,dL⟩,⟨bD,bE,rfl,l6u,m6u, -,dM⟩,⟨bW,bI,rfl,l7u,m7u, -,dN⟩,dG,⟨bX,bJ,rfl,l9u,m9u, -,dO⟩,⟨bY,bK,rfl,l10u,m10u, -,dP⟩,⟨bZ,bL,rfl,l14u,m14u, -,dQ⟩⟩:=st_in.1 h1
 obtain ⟨ku,ou,eC,eD,eE,nsu,Bu,mu,du,rfl⟩:=ex_form dG
 obtain ⟨r4v,r5v,r6v,r7v,ev,r9v,r10v,r14v,rfl,⟨cA,cB,rfl,l4v,m4v, -,dR⟩,⟨cC,bM,rfl,l5v,m5v, -,dS⟩,⟨bF,bG,rfl,l6v,m6v, -,dT⟩,⟨cD,bN,rfl,l7v,m7v, -,dU⟩,dH,⟨cE,bO,rfl,l9v,m9v, -,dV⟩,⟨cF,bP,rfl,l10v,m10v, -,dW⟩,⟨cG,bQ,rfl,l14v,m14v, -,dX⟩⟩:=st_in.1 h2
 obtain ⟨kv,ov,eF,eG,eH,nsv,Bv,mv,dv,rfl⟩:=ex_form dH
 simp only [List.length_map] at l4u l5u l6u l7u l9u l10u l14u h1 h2 ⊢
 obtain ⟨aI,cU⟩:∃n,aX.length=n:=⟨_,rfl⟩
 obtain ⟨cQ,cV⟩:∃n,aZ.length=n:=⟨_,rfl⟩
 obtain ⟨aH,cW⟩:∃n,aN.length=n:=⟨_,rfl⟩
 obtain ⟨cP,cX⟩:∃n,aS.length=n:=⟨_,rfl⟩
 obtain ⟨bR,dI⟩:∃n,aY.length=n:=⟨_,rfl⟩
 obtain ⟨bS,dJ⟩:∃n,bA.length=n:=⟨_,rfl⟩
 obtain ⟨aJ,cY⟩:∃n,aO.length=n:=⟨_,rfl⟩
 obtain ⟨cN,cZ⟩:∃n,aT.length=n:=⟨_,rfl⟩
 obtain ⟨aK,dA⟩:∃n,aP.length=n:=⟨_,rfl⟩
 obtain ⟨cM,dB⟩:∃n,aU.length=n:=⟨_,rfl⟩
 obtain ⟨aL,dC⟩:∃n,aQ.length=n:=⟨_,rfl⟩
 obtain ⟨cK,dD⟩:∃n,aV.length=n:=⟨_,rfl⟩
 obtain ⟨aM,dE⟩:∃n,aR.length=n:=⟨_,rfl⟩
 obtain ⟨cJ,dF⟩:∃n,aW.length=n:=⟨_,rfl⟩
 rw [cU,cW,dI,cY,dA,dC,dE,cV,cX,dJ,cZ,dB,dD,dF]
 show Calls Tryz.prog 11 #[.agg #[.int .i64 aA, .string (txt aB), .string (txt aC), .string (txt aD), .slice bT aI bU, .slice bV aH bH, .slice bD bR bE, .slice bW aJ bI, .int .i64 ku, .int .i64 ou, .int .i64 eC, .int .i64 eD, .string eE, .string nsu, .slice Bu mu du, .slice bX aK bJ, .slice bY aL bK, .int .i64 aE, .int .i64 aF, .bool aG, .slice bZ aM bL], .agg #[.int .i64 cT, .string (txt cS), .string (txt cR), .string (txt cO), .slice cA cQ cB, .slice cC cP bM, .slice bF bS bG, .slice cD cN bN, .int .i64 kv, .int .i64 ov, .int .i64 eF, .int .i64 eG, .string eH, .string nsv, .slice Bv mv dv, .slice cE cM bO, .slice cF cK bP, .int .i64 cL, .int .i64 cI, .bool cH, .slice cG cJ bQ]] w fun e w' =>e= .returned (.bool (eqB ((.mk aA aB aC aD aX aN aY aO bB aP aQ aE aF aG aR):St) (.mk cT cS cR cO aZ aS bA aT bC aU aV cL cI cH aW)))∧Below w.heap.size w w'
 obtain ⟨q1,eN⟩:∃q,eqB aY bA=q:=⟨_,rfl⟩
 have eP:=Lib.hid (show ∀W',Below w.heap.size w W' →Calls Tryz.prog 23 #[.slice bD bR bE, .slice bF bS bG] W' fun e w' =>e= .returned (.bool q1)∧Below W'.heap.size W' w' from fun W' hW=>by
  rw [←eN,←dI,←dJ]
  exact sameTexts_any aY bA bD bF bE bG W' (by omega) (RowIn.to (fun b h=>Nat.lt_of_lt_of_le h hW.size) (fun p hp=>hW.cell hp) dM) (RowIn.to (fun b h=>Nat.lt_of_lt_of_le h hW.size) (fun p hp=>hW.cell hp) dT))
 obtain ⟨q2,eO⟩:∃q,eqB bB bC=q:=⟨_,rfl⟩
 have eR:=Lib.hid (show ∀W',Below w.heap.size w W' →Calls Tryz.prog 24 #[.agg #[.int .i64 ku, .int .i64 ou, .int .i64 eC, .int .i64 eD, .string eE, .string nsu, .slice Bu mu du], .agg #[.int .i64 kv, .int .i64 ov, .int .i64 eF, .int .i64 eG, .string eH, .string nsv, .slice Bv mv dv]] W' fun e w' =>e= .returned (.bool q2)∧Below W'.heap.size W' w' from fun W' hW=>by
  rw [←eO]
  exact same_ex10 bB bC _ _ W' (DtIn.on dG hW) (DtIn.on dH hW))
 by_cases e:aA=cT
 case neg=>
  rw [eqB_no (a:=((.mk aA aB aC aD aX aN aY aO bB aP aQ aE aF aG aR):St)) (b:=(.mk cT cS cR cO aZ aS bA aT bC aU aV cL cI cH aW)) (fun g=>e (by injection g))]
  exact refSame_no0 aA aE aF aB aC aD aG bT aI bU bV aH bH bD bR bE bW aJ bI bX aK bJ bY aL bK bZ aM bL ku ou eC eD eE nsu Bu mu du cT cL cI cS cR cO cH cA cQ cB cC cP bM bF bS bG cD cN bN cE cM bO cF cK bP cG cJ bQ kv ov eF eG eH nsv Bv mv dv w (fun h=>e h.symm)
 subst e
 by_cases e:aB=cS
 case neg=>
  rw [eqB_no (a:=((.mk aA aB aC aD aX aN aY aO bB aP aQ aE aF aG aR):St)) (b:=(.mk aA cS cR cO aZ aS bA aT bC aU aV cL cI cH aW)) (fun g=>e (by injection g))]
  exact refSame_no1 aA aE aF aB aC aD aG bT aI bU bV aH bH bD bR bE bW aJ bI bX aK bJ bY aL bK bZ aM bL ku ou eC eD eE nsu Bu mu du aA cL cI cS cR cO cH cA cQ cB cC cP bM bF bS bG cD cN bN cE cM bO cF cK bP cG cJ bQ kv ov eF eG eH nsv Bv mv dv w (fun h=>e h.symm)
 subst e
 by_cases e:aC=cR
 case neg=>
  rw [eqB_no (a:=((.mk aA aB aC aD aX aN aY aO bB aP aQ aE aF aG aR):St)) (b:=(.mk aA aB cR cO aZ aS bA aT bC aU aV cL cI cH aW)) (fun g=>e (by injection g))]
  exact refSame_no2 aA aE aF aB aC aD aG bT aI bU bV aH bH bD bR bE bW aJ bI bX aK bJ bY aL bK bZ aM bL ku ou eC eD eE nsu Bu mu du aA cL cI aB cR cO cH cA cQ cB cC cP bM bF bS bG cD cN bN cE cM bO cF cK bP cG cJ bQ kv ov eF eG eH nsv Bv mv dv w (fun h=>e h.symm)
 subst e
 by_cases e:aD=cO
 case neg=>
  rw [eqB_no (a:=((.mk aA aB aC aD aX aN aY aO bB aP aQ aE aF aG aR):St)) (b:=(.mk aA aB aC cO aZ aS bA aT bC aU aV cL cI cH aW)) (fun g=>e (by injection g))]
  exact refSame_no3 aA aE aF aB aC aD aG bT aI bU bV aH bH bD bR bE bW aJ bI bX aK bJ bY aL bK bZ aM bL ku ou eC eD eE nsu Bu mu du aA cL cI aB aC cO cH cA cQ cB cC cP bM bF bS bG cD cN bN cE cM bO cF cK bP cG cJ bQ kv ov eF eG eH nsv Bv mv dv w (fun h=>e h.symm)
 subst e
 by_cases e:aE=cL
 case neg=>
  rw [eqB_no (a:=((.mk aA aB aC aD aX aN aY aO bB aP aQ aE aF aG aR):St)) (b:=(.mk aA aB aC aD aZ aS bA aT bC aU aV cL cI cH aW)) (fun g=>e (by injection g))]
  exact refSame_no4 aA aE aF aB aC aD aG bT aI bU bV aH bH bD bR bE bW aJ bI bX aK bJ bY aL bK bZ aM bL ku ou eC eD eE nsu Bu mu du aA cL cI aB aC aD cH cA cQ cB cC cP bM bF bS bG cD cN bN cE cM bO cF cK bP cG cJ bQ kv ov eF eG eH nsv Bv mv dv w (fun h=>e h.symm)
 subst e
 by_cases e:aF=cI
 case neg=>
  rw [eqB_no (a:=((.mk aA aB aC aD aX aN aY aO bB aP aQ aE aF aG aR):St)) (b:=(.mk aA aB aC aD aZ aS bA aT bC aU aV aE cI cH aW)) (fun g=>e (by injection g))]
  exact refSame_no5 aA aE aF aB aC aD aG bT aI bU bV aH bH bD bR bE bW aJ bI bX aK bJ bY aL bK bZ aM bL ku ou eC eD eE nsu Bu mu du aA aE cI aB aC aD cH cA cQ cB cC cP bM bF bS bG cD cN bN cE cM bO cF cK bP cG cJ bQ kv ov eF eG eH nsv Bv mv dv w (fun h=>e h.symm)
 subst e
 by_cases e:aG=cH
 case neg=>
  rw [eqB_no (a:=((.mk aA aB aC aD aX aN aY aO bB aP aQ aE aF aG aR):St)) (b:=(.mk aA aB aC aD aZ aS bA aT bC aU aV aE aF cH aW)) (fun g=>e (by injection g))]
  exact refSame_no6 aA aE aF aB aC aD aG bT aI bU bV aH bH bD bR bE bW aJ bI bX aK bJ bY aL bK bZ aM bL ku ou eC eD eE nsu Bu mu du aA aE aF aB aC aD cH cA cQ cB cC cP bM bF bS bG cD cN bN cE cM bO cF cK bP cG cJ bQ kv ov eF eG eH nsv Bv mv dv w (fun h=>e h.symm)
 subst e
 by_cases e:aI=cQ
 case neg=>
  rw [eqB_no (a:=((.mk aA aB aC aD aX aN aY aO bB aP aQ aE aF aG aR):St)) (b:=(.mk aA aB aC aD aZ aS bA aT bC aU aV aE aF aG aW)) (fun g=>e (by rw [←cU,←cV];injection g with g0 g1 g2 g3 g4 g5 g6 g7 g8 g9 g10 g11 g12 g13 g14;rw [g4]))]
  exact refSame_no7 aA aE aF aB aC aD aG bT aI bU bV aH bH bD bR bE bW aJ bI bX aK bJ bY aL bK bZ aM bL ku ou eC eD eE nsu Bu mu du aA aE aF aB aC aD aG cA cQ cB cC cP bM bF bS bG cD cN bN cE cM bO cF cK bP cG cJ bQ kv ov eF eG eH nsv Bv mv dv w (fun h=>e h.symm)
 subst e
 by_cases e:aH=cP
 case neg=>
  rw [eqB_no (a:=((.mk aA aB aC aD aX aN aY aO bB aP aQ aE aF aG aR):St)) (b:=(.mk aA aB aC aD aZ aS bA aT bC aU aV aE aF aG aW)) (fun g=>e (by rw [←cW,←cX];injection g with g0 g1 g2 g3 g4 g5 g6 g7 g8 g9 g10 g11 g12 g13 g14;rw [g5]))]
  exact refSame_no8 aA aE aF aB aC aD aG bT aI bU bV aH bH bD bR bE bW aJ bI bX aK bJ bY aL bK bZ aM bL ku ou eC eD eE nsu Bu mu du aA aE aF aB aC aD aG cA aI cB cC cP bM bF bS bG cD cN bN cE cM bO cF cK bP cG cJ bQ kv ov eF eG eH nsv Bv mv dv w (fun h=>e h.symm)
 subst e
 by_cases e:aJ=cN
 case neg=>
  rw [eqB_no (a:=((.mk aA aB aC aD aX aN aY aO bB aP aQ aE aF aG aR):St)) (b:=(.mk aA aB aC aD aZ aS bA aT bC aU aV aE aF aG aW)) (fun g=>e (by rw [←cY,←cZ];injection g with g0 g1 g2 g3 g4 g5 g6 g7 g8 g9 g10 g11 g12 g13 g14;rw [g7]))]
  exact refSame_no9 aA aE aF aB aC aD aG bT aI bU bV aH bH bD bR bE bW aJ bI bX aK bJ bY aL bK bZ aM bL ku ou eC eD eE nsu Bu mu du aA aE aF aB aC aD aG cA aI cB cC aH bM bF bS bG cD cN bN cE cM bO cF cK bP cG cJ bQ kv ov eF eG eH nsv Bv mv dv w (fun h=>e h.symm)
 subst e
 by_cases e:aK=cM
 case neg=>
  rw [eqB_no (a:=((.mk aA aB aC aD aX aN aY aO bB aP aQ aE aF aG aR):St)) (b:=(.mk aA aB aC aD aZ aS bA aT bC aU aV aE aF aG aW)) (fun g=>e (by rw [←dA,←dB];injection g with g0 g1 g2 g3 g4 g5 g6 g7 g8 g9 g10 g11 g12 g13 g14;rw [g9]))]
  exact refSame_no10 aA aE aF aB aC aD aG bT aI bU bV aH bH bD bR bE bW aJ bI bX aK bJ bY aL bK bZ aM bL ku ou eC eD eE nsu Bu mu du aA aE aF aB aC aD aG cA aI cB cC aH bM bF bS bG cD aJ bN cE cM bO cF cK bP cG cJ bQ kv ov eF eG eH nsv Bv mv dv w (fun h=>e h.symm)
 subst e
 by_cases e:aL=cK
 case neg=>
  rw [eqB_no (a:=((.mk aA aB aC aD aX aN aY aO bB aP aQ aE aF aG aR):St)) (b:=(.mk aA aB aC aD aZ aS bA aT bC aU aV aE aF aG aW)) (fun g=>e (by rw [←dC,←dD];injection g with g0 g1 g2 g3 g4 g5 g6 g7 g8 g9 g10 g11 g12 g13 g14;rw [g10]))]
  exact refSame_no11 aA aE aF aB aC aD aG bT aI bU bV aH bH bD bR bE bW aJ bI bX aK bJ bY aL bK bZ aM bL ku ou eC eD eE nsu Bu mu du aA aE aF aB aC aD aG cA aI cB cC aH bM bF bS bG cD aJ bN cE aK bO cF cK bP cG cJ bQ kv ov eF eG eH nsv Bv mv dv w (fun h=>e h.symm)
 subst e
 by_cases e:aM=cJ
 case neg=>
  rw [eqB_no (a:=((.mk aA aB aC aD aX aN aY aO bB aP aQ aE aF aG aR):St)) (b:=(.mk aA aB aC aD aZ aS bA aT bC aU aV aE aF aG aW)) (fun g=>e (by rw [←dE,←dF];injection g with g0 g1 g2 g3 g4 g5 g6 g7 g8 g9 g10 g11 g12 g13 g14;rw [g14]))]
  exact refSame_no12 aA aE aF aB aC aD aG bT aI bU bV aH bH bD bR bE bW aJ bI bX aK bJ bY aL bK bZ aM bL ku ou eC eD eE nsu Bu mu du aA aE aF aB aC aD aG cA aI cB cC aH bM bF bS bG cD aJ bN cE aK bO cF aL bP cG cJ bQ kv ov eF eG eH nsv Bv mv dv w (fun h=>e h.symm)
 subst e
 by_cases e:q1=false
 case pos=>
  subst e
  rw [eqB_no (a:=((.mk aA aB aC aD aX aN aY aO bB aP aQ aE aF aG aR):St)) (b:=(.mk aA aB aC aD aZ aS bA aT bC aU aV aE aF aG aW)) (fun g=>by
   have e9:aY=bA:=by cases g;rfl
   rw [eqB_yes e9] at eN
   cases eN)]
  exact refSame_no13 aA aE aF aB aC aD aG bT aI bU bV aH bH bD bR bE bW aJ bI bX aK bJ bY aL bK bZ aM bL ku ou eC eD eE nsu Bu mu du aA aE aF aB aC aD aG cA aI cB cC aH bM bF bS bG cD aJ bN cE aK bO cF aL bP cG aM bQ kv ov eF eG eH nsv Bv mv dv w eP
 obtain rfl:q1=true:=by
  cases q1 with
  |false=>exact absurd rfl e
  |true=>rfl
 clear e
 by_cases e:q2=false
 case pos=>
  subst e
  rw [eqB_no (a:=((.mk aA aB aC aD aX aN aY aO bB aP aQ aE aF aG aR):St)) (b:=(.mk aA aB aC aD aZ aS bA aT bC aU aV aE aF aG aW)) (fun g=>by
   have e9:bB=bC:=by cases g;rfl
   rw [eqB_yes e9] at eO
   cases eO)]
  exact refSame_no14 aA aE aF aB aC aD aG bT aI bU bV aH bH bD bR bE bW aJ bI bX aK bJ bY aL bK bZ aM bL ku ou eC eD eE nsu Bu mu du aA aE aF aB aC aD aG cA aI cB cC aH bM bF bS bG cD aJ bN cE aK bO cF aL bP cG aM bQ kv ov eF eG eH nsv Bv mv dv w eP eR
 obtain rfl:q2=true:=by
  cases q2 with
  |false=>exact absurd rfl e
  |true=>rfl
 clear e
 have t6:=eqB_iff.1 eN
 have t8:=eqB_iff.1 eO
 obtain ⟨z,hz⟩:∃z,eqB ((.mk aA aB aC aD aX aN aY aO bB aP aQ aE aF aG aR):St) (.mk aA aB aC aD aZ aS bA aT bC aU aV aE aF aG aW)=z:=⟨_,rfl⟩
 have HE:=Lib.hid (show aX=aZ→aN=aS→aO=aT→aP=aU→aQ=aV→aR=aW→z=true from fun v4 v5 v7 v9 v10 v14=>hz▸eqB_yes (by rw [t6,t8,v4,v5,v7,v9,v10,v14]))
 have eQ:=Lib.hid (show aX≠aZ→z=false from fun g=>hz▸eqB_no (fun e=>g (by injection e)))
 have eU:=Lib.hid (show aN≠aS→z=false from fun g=>hz▸eqB_no (fun e=>g (by injection e)))
 have eV:=Lib.hid (show aO≠aT→z=false from fun g=>hz▸eqB_no (fun e=>g (by injection e)))
 have eS:=Lib.hid (show aP≠aU→z=false from fun g=>hz▸eqB_no (fun e=>g (by injection e)))
 have eT:=Lib.hid (show aQ≠aV→z=false from fun g=>hz▸eqB_no (fun e=>g (by injection e)))
 have fU:=Lib.hid (show aR≠aW→z=false from fun g=>hz▸eqB_no (fun e=>g (by injection e)))
 rw [hz]
 have HI:=Lib.hid ih
 have eW:=Lib.hid dK
 have eX:=Lib.hid dR
 have eY:=Lib.hid cU
 have eZ:=Lib.hid cV
 have mx4:aI≤2 ^ 63 - 1:=by have:=l4u;have:=m4u;unfold maxLen at this;omega
 have fA:=Lib.hid dL
 have fB:=Lib.hid dS
 have fC:=Lib.hid cW
 have fD:=Lib.hid cX
 have mx5:aH≤2 ^ 63 - 1:=by have:=l5u;have:=m5u;unfold maxLen at this;omega
 have fE:=Lib.hid dN
 have fF:=Lib.hid dU
 have fG:=Lib.hid cY
 have fH:=Lib.hid cZ
 have mx7:aJ≤2 ^ 63 - 1:=by have:=l7u;have:=m7u;unfold maxLen at this;omega
 have fI:=Lib.hid dO
 have fJ:=Lib.hid dV
 have fK:=Lib.hid dA
 have fL:=Lib.hid dB
 have mx9:aK≤2 ^ 63 - 1:=by have:=l9u;have:=m9u;unfold maxLen at this;omega
 have fM:=Lib.hid dP
 have fN:=Lib.hid dW
 have fO:=Lib.hid dC
 have fP:=Lib.hid dD
 have mx10:aL≤2 ^ 63 - 1:=by have:=l10u;have:=m10u;unfold maxLen at this;omega
 have fV:=Lib.hid dQ
 have fW:=Lib.hid dX
 have fQ:=Lib.hid dE
 have fR:=Lib.hid dF
 have mx14:aM≤2 ^ 63 - 1:=by have:=l14u;have:=m14u;unfold maxLen at this;omega
 obtain ⟨W,hW⟩:∃W,(w.alloc (.cells #[.int .i64 aA, .string (txt aB), .string (txt aC), .string (txt aD), .slice bT aI bU, .slice bV aH bH, .slice bD bR bE, .slice bW aJ bI, .int .i64 ku, .int .i64 ou, .int .i64 eC, .int .i64 eD, .string eE, .string nsu, .slice Bu mu du, .slice bX aK bJ, .slice bY aL bK, .int .i64 aE, .int .i64 aF, .bool aG, .slice bZ aM bL] 35)).alloc (.cells #[.int .i64 aA, .string (txt aB), .string (txt aC), .string (txt aD), .slice cA aI cB, .slice cC aH bM, .slice bF bS bG, .slice cD aJ bN, .int .i64 kv, .int .i64 ov, .int .i64 eF, .int .i64 eG, .string eH, .string nsv, .slice Bv mv dv, .slice cE aK bO, .slice cF aL bP, .int .i64 aE, .int .i64 aF, .bool aG, .slice cG aM bQ] 35)=W:=⟨_,rfl⟩
 have hb:Below w.heap.size w W:=by rw [←hW];exact al (al (Below.refl _ _) _) _
 have hs1:w.heap.size<W.heap.size:=by rw [←hW];simp;omega
 have hs2:w.heap.size+1<W.heap.size:=by rw [←hW];simp
 have x1:Cel W w.heap.size 35 #[.int .i64 aA, .string (txt aB), .string (txt aC), .string (txt aD), .slice bT aI bU, .slice bV aH bH, .slice bD bR bE, .slice bW aJ bI, .int .i64 ku, .int .i64 ou, .int .i64 eC, .int .i64 eD, .string eE, .string nsu, .slice Bu mu du, .slice bX aK bJ, .slice bY aL bK, .int .i64 aE, .int .i64 aF, .bool aG, .slice bZ aM bL]:=by rw [←hW];exact (Cel.new w _ _ rfl).alloc _
 have x2:Cel W (w.heap.size+1) 35 #[.int .i64 aA, .string (txt aB), .string (txt aC), .string (txt aD), .slice cA aI cB, .slice cC aH bM, .slice bF bS bG, .slice cD aJ bN, .int .i64 kv, .int .i64 ov, .int .i64 eF, .int .i64 eG, .string eH, .string nsv, .slice Bv mv dv, .slice cE aK bO, .slice cF aL bP, .int .i64 aE, .int .i64 aF, .bool aG, .slice cG aM bQ]:=by rw [←hW];exact Cel.new _ _ _ (by simp)
 have HB:=Lib.hid hb
 have dY:=Lib.hid hb
 have HY:=Lib.hid (Below.refl W.heap.size W)
 have eA:=Lib.hid hs1
 have eB:=Lib.hid hs2
 have X1:=Lib.hid x1
 have X2:=Lib.hid x2
 have c0:=x1.at_ 0
 have d0:=x2.at_ 0
 have c1:=x1.at_ 1
 have d1:=x2.at_ 1
 have c2:=x1.at_ 2
 have d2:=x2.at_ 2
 have c3:=x1.at_ 3
 have d3:=x2.at_ 3
 have c17:=x1.at_ 17
 have d17:=x2.at_ 17
 have c18:=x1.at_ 18
 have d18:=x2.at_ 18
 have c19:=x1.at_ 19
 have d19:=x2.at_ 19
 have c4:=x1.at_ 4
 have d4:=x2.at_ 4
 have c5:=x1.at_ 5
 have d5:=x2.at_ 5
 have c7:=x1.at_ 7
 have d7:=x2.at_ 7
 have c15:=x1.at_ 15
 have d15:=x2.at_ 15
 have c16:=x1.at_ 16
 have d16:=x2.at_ 16
 have c20:=x1.at_ 20
 have d20:=x2.at_ 20
 have c6:=x1.at_ 6
 have d6:=x2.at_ 6
 have c8:=x1.at_ 8
 have d8:=x2.at_ 8
 have c9:=x1.at_ 9
 have d9:=x2.at_ 9
 have c10:=x1.at_ 10
 have d10:=x2.at_ 10
 have c11:=x1.at_ 11
 have d11:=x2.at_ 11
 have c12:=x1.at_ 12
 have d12:=x2.at_ 12
 have c13:=x1.at_ 13
 have d13:=x2.at_ 13
 have c14:=x1.at_ 14
 have d14:=x2.at_ 14
 clear x1 x2 hb hs1 hs2 ih dK dR dL dS dM dT dN dU dG dH dO dV dP dW dQ dX h1 h2 l4u m4u l4v m4v l5u m5u l5v m5v l6u m6u l6v m6v l7u m7u l7v m7v l9u m9u l9v m9v l10u m10u l10v m10v cU cV cW cX dI dJ cY cZ dA dB dC dD l14u m14u l14v m14v dE dF eN eO hz t6 t8
 go_enter Tryz.func11,Tryz.ntmps11
 go_wp2_with (go_at_call 23;(with_reducible refine (eP.out _ HB.out).mono ?_);rintro e' w2 ⟨rfl,gD⟩;have HB:=Lib.hid (Mem.on HB.out gD);have HY:=Lib.hid (Mem.on HY.out gD);have c8:=(HY.out.cell (p:=⟨w.heap.size,8,none⟩) eA.out).trans (X1.out.at_ 8);have d8:=(HY.out.cell (p:=⟨w.heap.size+1,8,none⟩) eB.out).trans (X2.out.at_ 8);have c9:=(HY.out.cell (p:=⟨w.heap.size,9,none⟩) eA.out).trans (X1.out.at_ 9);have d9:=(HY.out.cell (p:=⟨w.heap.size+1,9,none⟩) eB.out).trans (X2.out.at_ 9);have c10:=(HY.out.cell (p:=⟨w.heap.size,10,none⟩) eA.out).trans (X1.out.at_ 10);have d10:=(HY.out.cell (p:=⟨w.heap.size+1,10,none⟩) eB.out).trans (X2.out.at_ 10);have c11:=(HY.out.cell (p:=⟨w.heap.size,11,none⟩) eA.out).trans (X1.out.at_ 11);have d11:=(HY.out.cell (p:=⟨w.heap.size+1,11,none⟩) eB.out).trans (X2.out.at_ 11);have c12:=(HY.out.cell (p:=⟨w.heap.size,12,none⟩) eA.out).trans (X1.out.at_ 12);have d12:=(HY.out.cell (p:=⟨w.heap.size+1,12,none⟩) eB.out).trans (X2.out.at_ 12);have c13:=(HY.out.cell (p:=⟨w.heap.size,13,none⟩) eA.out).trans (X1.out.at_ 13);have d13:=(HY.out.cell (p:=⟨w.heap.size+1,13,none⟩) eB.out).trans (X2.out.at_ 13);have c14:=(HY.out.cell (p:=⟨w.heap.size,14,none⟩) eA.out).trans (X1.out.at_ 14);have d14:=(HY.out.cell (p:=⟨w.heap.size+1,14,none⟩) eB.out).trans (X2.out.at_ 14);clear gD)
 go_wp2_with (go_at_call 24;(with_reducible refine (eR.out _ HB.out).mono ?_);rintro e' w2 ⟨rfl,gD⟩;have HB:=Lib.hid (Mem.on HB.out gD);have HY:=Lib.hid (Mem.on HY.out gD);clear gD)
 clear c0 d0 c1 d1 c2 d2 c3 d3 c17 d17 c18 d18 c19 d19 c4 d4 c5 d5 c7 d7 c15 d15 c16 d16 c20 d20 c6 d6 c8 d8 c9 d9 c10 d10 c11 d11 c12 d12 c13 d13 c14 d14 eP eR
 go_loopw [5] (fun i wr=>∃j:Nat,j≤aI∧i= .int .i64 (j:Int)∧Hid (aX.take j=aZ.take j)∧Hid (Below W.heap.size W wr)) (fun i _=>aI+1 - (intOf i).toNat)
 case atStart=>exact ⟨0,Nat.zero_le _,rfl,Lib.hid (by rw [List.take_zero,List.take_zero]),HY⟩
 case round=>
  obtain ⟨j,hj,rfl,HL,HB⟩:=hrel
  by_cases hlt:j<aI
  ·obtain ⟨x,hx⟩:=some_at eY.out hlt
   obtain ⟨y,hy⟩:=some_at eZ.out hlt
   have tl:decide ((j:Int)<(aI:Int))=true:=decide_eq_true (by omega)
   have hlt' :(j:Int)<(aI:Int):=by omega
   have hlt2:(0:Int)≤(j:Int):=by omega
   obtain ⟨b1,z1,rfl,gE,p0,p1,p2⟩:=co_at eW.out hx
   obtain ⟨b2,z2,rfl,gD,r0,r1,r2⟩:=co_at eX.out hy
   have HBn:=Mem.on dY.out HB.out
   have c0:=(HBn.cell (p:=⟨b1,z1+j*3,none⟩) gE).trans p0
   have d0:=(HBn.cell (p:=⟨b2,z2+j*3,none⟩) gD).trans r0
   have c1:=(HBn.cell (p:=⟨b1,z1+j*3+1,none⟩) gE).trans p1
   have d1:=(HBn.cell (p:=⟨b2,z2+j*3+1,none⟩) gD).trans r1
   have c2:=(HBn.cell (p:=⟨b1,z1+j*3+2,none⟩) gE).trans p2
   have d2:=(HBn.cell (p:=⟨b2,z2+j*3+2,none⟩) gD).trans r2
   have k4:=(HB.out.cell (p:=⟨w.heap.size,4,none⟩) eA.out).trans (X1.out.at_ 4)
   have o4:=(HB.out.cell (p:=⟨w.heap.size+1,4,none⟩) eB.out).trans (X2.out.at_ 4)
   obtain ⟨xn,xt,xb⟩:=x
   obtain ⟨yn,yt,yb⟩:=y
   clear p0 p1 p2 r0 r1 r2 HBn
   by_cases hd:xn=yn
   case neg=>
    have HF:=Lib.hid (eQ.out (ne_at hx hy (fun e=>hd (by injection e))))
    obtain ⟨t3,t4,t5⟩:=txt_ne hd
    clear hx hy gE gD hd
    go_wp2
    go_region
    go_wp2
    go_ret
    exact ⟨rb HF.out.symm,Mem.on dY.out HB.out.drew⟩
   subst hd
   by_cases hd:xt=yt
   case neg=>
    have HF:=Lib.hid (eQ.out (ne_at hx hy (fun e=>hd (by injection e))))
    have t3:¬xt=yt:=hd
    clear hx hy gE gD hd
    go_wp2
    go_region
    go_wp2
    go_ret
    exact ⟨rb HF.out.symm,Mem.on dY.out HB.out.drew⟩
   subst hd
   by_cases hd:xb=yb
   case neg=>
    have HF:=Lib.hid (eQ.out (ne_at hx hy (fun e=>hd (by injection e))))
    have t3:¬xb=yb:=hd
    clear hx hy gE gD hd
    go_wp2
    go_region
    go_wp2
    go_ret
    exact ⟨rb HF.out.symm,Mem.on dY.out HB.out.drew⟩
   subst hd
   have HT:=Lib.hid (take_on hx hy HL.out)
   clear hx hy gE gD
   go_wp2
   go_region
   go_wp2
   go_roundw
   case rel=>exact ⟨j+1,by omega,by go_num,HT,Lib.hid HB.out.drew⟩
   case measure=>simp [intOf];omega
  ·have tl : decide ((j:Int)<(aI:Int))=false:=decide_eq_false (by omega)
   obtain rfl:j=aI:=by omega
   have fX:=Lib.hid (take_all_eq eY.out eZ.out HL.out)
   have k4:=(HB.out.cell (p:=⟨w.heap.size,4,none⟩) eA.out).trans (X1.out.at_ 4)
   have o4:=(HB.out.cell (p:=⟨w.heap.size+1,4,none⟩) eB.out).trans (X2.out.at_ 4)
   go_wp2
   clear k4 o4 tl HL eW eX eQ
   go_loopw [6] (fun i wr=>∃j:Nat,j≤aH∧i= .int .i64 (j:Int)∧Hid (aN.take j=aS.take j)∧Hid (Below W.heap.size W wr)) (fun i _=>aH+1 - (intOf i).toNat)
   case atStart=>exact ⟨0,Nat.zero_le _,rfl,Lib.hid (by rw [List.take_zero,List.take_zero]),HB⟩
   case round=>
    obtain ⟨j,hj,rfl,HL,HB⟩:=hrel
    by_cases hlt:j<aH
    ·obtain ⟨x,hx⟩:=some_at fC.out hlt
     obtain ⟨y,hy⟩:=some_at fD.out hlt
     have tl:decide ((j:Int)<(aH:Int))=true:=decide_eq_true (by omega)
     have hlt' :(j:Int)<(aH:Int):=by omega
     have hlt2:(0:Int)≤(j:Int):=by omega
     obtain ⟨b1,z1,nmx,kdx,Px,pnx,pcx,kx,ox,vkx,vnx,vsx,nsx,Ax,nx,cx,tbx,Qx,qnx,qcx,rfl,gE,⟨p0,p1,p2,p3,p4,p5,p6,p7,p8,p9,p10,p11⟩,in1⟩:=cn_at fA.out hx
     obtain ⟨b2,z2,nmk,kdk,Pk,pnk,pck,kk,ok,vkk,vnk,vsk,nsk,Ak,nk,ck,tbk,Qk,qnk,qck,rfl,gD,⟨r0,r1,r2,r3,r4,r5,r6,r7,r8,r9,r10,r11⟩,in2⟩:=cn_at fB.out hy
     obtain ⟨q,hq⟩:∃q,eqB x y=q:=⟨_,rfl⟩
     have eI:=Lib.hid (show ∀W',Below W.heap.size W W' →Calls Tryz.prog 25 #[.agg #[.string nmx, .int .i64 kdx, .slice Px pnx pcx, .int .i64 kx, .int .i64 ox, .int .i64 vkx, .int .i64 vnx, .string vsx, .string nsx, .slice Ax nx cx, .string tbx, .slice Qx qnx qcx], .agg #[.string nmk, .int .i64 kdk, .slice Pk pnk pck, .int .i64 kk, .int .i64 ok, .int .i64 vkk, .int .i64 vnk, .string vsk, .string nsk, .slice Ak nk ck, .string tbk, .slice Qk qnk qck]] W' fun e w' =>e= .returned (.bool q)∧Below W'.heap.size W' w' from fun W' hW=>by
      rw [←hq]
      exact refSame_cons x y [.string nmx, .int .i64 kdx, .slice Px pnx pcx, .int .i64 kx, .int .i64 ox, .int .i64 vkx, .int .i64 vnx, .string vsx, .string nsx, .slice Ax nx cx, .string tbx, .slice Qx qnx qcx] [.string nmk, .int .i64 kdk, .slice Pk pnk pck, .int .i64 kk, .int .i64 ok, .int .i64 vkk, .int .i64 vnk, .string vsk, .string nsk, .slice Ak nk ck, .string tbk, .slice Qk qnk qck] W' (DtIn.on in1 (Mem.on dY.out hW)) (DtIn.on in2 (Mem.on dY.out hW)))
     have eJ:q=true→aN.take (j+1)=aS.take (j+1):=fun e=>by
      have hxy:x=y:=eqB_iff.1 (hq.trans e)
      exact take_on hx (hxy▸hy) HL.out
     have eK:q=false→aN≠aS:=fun e=>ne_at hx hy (fun g=>by rw [eqB_yes g] at hq;rw [e] at hq;cases hq)
     have c0:∀s:CW W,s.val.cell? ⟨b1,z1+j*12,none⟩=some (.string nmx):=fun s=>((Mem.on dY.out s.h).cell (p:=⟨b1,z1+j*12,none⟩) gE).trans p0
     have c1:∀s:CW W,s.val.cell? ⟨b1,z1+j*12+1,none⟩=some (.int .i64 kdx):=fun s=>((Mem.on dY.out s.h).cell (p:=⟨b1,z1+j*12+1,none⟩) gE).trans p1
     have c2:∀s:CW W,s.val.cell? ⟨b1,z1+j*12+2,none⟩=some (.slice Px pnx pcx):=fun s=>((Mem.on dY.out s.h).cell (p:=⟨b1,z1+j*12+2,none⟩) gE).trans p2
     have c3:∀s:CW W,s.val.cell? ⟨b1,z1+j*12+3,none⟩=some (.int .i64 kx):=fun s=>((Mem.on dY.out s.h).cell (p:=⟨b1,z1+j*12+3,none⟩) gE).trans p3
     have c4:∀s:CW W,s.val.cell? ⟨b1,z1+j*12+4,none⟩=some (.int .i64 ox):=fun s=>((Mem.on dY.out s.h).cell (p:=⟨b1,z1+j*12+4,none⟩) gE).trans p4
     have c5:∀s:CW W,s.val.cell? ⟨b1,z1+j*12+5,none⟩=some (.int .i64 vkx):=fun s=>((Mem.on dY.out s.h).cell (p:=⟨b1,z1+j*12+5,none⟩) gE).trans p5
     have c6:∀s:CW W,s.val.cell? ⟨b1,z1+j*12+6,none⟩=some (.int .i64 vnx):=fun s=>((Mem.on dY.out s.h).cell (p:=⟨b1,z1+j*12+6,none⟩) gE).trans p6
     have c7:∀s:CW W,s.val.cell? ⟨b1,z1+j*12+7,none⟩=some (.string vsx):=fun s=>((Mem.on dY.out s.h).cell (p:=⟨b1,z1+j*12+7,none⟩) gE).trans p7
     have c8:∀s:CW W,s.val.cell? ⟨b1,z1+j*12+8,none⟩=some (.string nsx):=fun s=>((Mem.on dY.out s.h).cell (p:=⟨b1,z1+j*12+8,none⟩) gE).trans p8
     have c9:∀s:CW W,s.val.cell? ⟨b1,z1+j*12+9,none⟩=some (.slice Ax nx cx):=fun s=>((Mem.on dY.out s.h).cell (p:=⟨b1,z1+j*12+9,none⟩) gE).trans p9
     have c10:∀s:CW W,s.val.cell? ⟨b1,z1+j*12+10,none⟩=some (.string tbx):=fun s=>((Mem.on dY.out s.h).cell (p:=⟨b1,z1+j*12+10,none⟩) gE).trans p10
     have c11:∀s:CW W,s.val.cell? ⟨b1,z1+j*12+11,none⟩=some (.slice Qx qnx qcx):=fun s=>((Mem.on dY.out s.h).cell (p:=⟨b1,z1+j*12+11,none⟩) gE).trans p11
     have d0:∀s:CW W,s.val.cell? ⟨b2,z2+j*12,none⟩=some (.string nmk):=fun s=>((Mem.on dY.out s.h).cell (p:=⟨b2,z2+j*12,none⟩) gD).trans r0
     have d1:∀s:CW W,s.val.cell? ⟨b2,z2+j*12+1,none⟩=some (.int .i64 kdk):=fun s=>((Mem.on dY.out s.h).cell (p:=⟨b2,z2+j*12+1,none⟩) gD).trans r1
     have d2:∀s:CW W,s.val.cell? ⟨b2,z2+j*12+2,none⟩=some (.slice Pk pnk pck):=fun s=>((Mem.on dY.out s.h).cell (p:=⟨b2,z2+j*12+2,none⟩) gD).trans r2
     have d3:∀s:CW W,s.val.cell? ⟨b2,z2+j*12+3,none⟩=some (.int .i64 kk):=fun s=>((Mem.on dY.out s.h).cell (p:=⟨b2,z2+j*12+3,none⟩) gD).trans r3
     have d4:∀s:CW W,s.val.cell? ⟨b2,z2+j*12+4,none⟩=some (.int .i64 ok):=fun s=>((Mem.on dY.out s.h).cell (p:=⟨b2,z2+j*12+4,none⟩) gD).trans r4
     have d5:∀s:CW W,s.val.cell? ⟨b2,z2+j*12+5,none⟩=some (.int .i64 vkk):=fun s=>((Mem.on dY.out s.h).cell (p:=⟨b2,z2+j*12+5,none⟩) gD).trans r5
     have d6:∀s:CW W,s.val.cell? ⟨b2,z2+j*12+6,none⟩=some (.int .i64 vnk):=fun s=>((Mem.on dY.out s.h).cell (p:=⟨b2,z2+j*12+6,none⟩) gD).trans r6
     have d7:∀s:CW W,s.val.cell? ⟨b2,z2+j*12+7,none⟩=some (.string vsk):=fun s=>((Mem.on dY.out s.h).cell (p:=⟨b2,z2+j*12+7,none⟩) gD).trans r7
     have d8:∀s:CW W,s.val.cell? ⟨b2,z2+j*12+8,none⟩=some (.string nsk):=fun s=>((Mem.on dY.out s.h).cell (p:=⟨b2,z2+j*12+8,none⟩) gD).trans r8
     have d9:∀s:CW W,s.val.cell? ⟨b2,z2+j*12+9,none⟩=some (.slice Ak nk ck):=fun s=>((Mem.on dY.out s.h).cell (p:=⟨b2,z2+j*12+9,none⟩) gD).trans r9
     have d10:∀s:CW W,s.val.cell? ⟨b2,z2+j*12+10,none⟩=some (.string tbk):=fun s=>((Mem.on dY.out s.h).cell (p:=⟨b2,z2+j*12+10,none⟩) gD).trans r10
     have d11:∀s:CW W,s.val.cell? ⟨b2,z2+j*12+11,none⟩=some (.slice Qk qnk qck):=fun s=>((Mem.on dY.out s.h).cell (p:=⟨b2,z2+j*12+11,none⟩) gD).trans r11
     clear p0 r0 p1 r1 p2 r2 p3 r3 p4 r4 p5 r5 p6 r6 p7 r7 p8 r8 p9 r9 p10 r10 p11 r11
     have k5:=(HB.out.cell (p:=⟨w.heap.size,5,none⟩) eA.out).trans (X1.out.at_ 5)
     have o5:=(HB.out.cell (p:=⟨w.heap.size+1,5,none⟩) eB.out).trans (X2.out.at_ 5)
     have kk5:∀s:CW W,s.val.cell? ⟨w.heap.size,5,none⟩=some (.slice (some ⟨b1,z1,none⟩) aH bH):=fun s=>(s.h.cell (p:=⟨w.heap.size,5,none⟩) eA.out).trans (X1.out.at_ 5)
     have oo5:∀s:CW W,s.val.cell? ⟨w.heap.size+1,5,none⟩=some (.slice (some ⟨b2,z2,none⟩) aH bM):=fun s=>(s.h.cell (p:=⟨w.heap.size+1,5,none⟩) eB.out).trans (X2.out.at_ 5)
     clear hx hy hq in1 in2 gE gD
     have eL:=Lib.hid (show q=true→aN.take (j+1)=aS.take (j+1) from fun e=>eJ e)
     have eM:=Lib.hid (show q=false→z=false from fun e=>eU.out (eK e))
     clear eJ eK
     cases q with
     | true=>as_aux_lemma=>
      go_wp2
      refine wp_region_class (w₀:=W) HB.out.drew (by kernel_rfl) (by kernel_rfl) ?_
      repeat (go_big_quiet_step ((go_at_call 25;exact CW.calls (eI.out _ (CW.h _)))))
      refine wpQuiet_nil ?_
      rintro _ ⟨s,rfl⟩
      have dZ:=Lib.hid s.h
      generalize s.val=W4 at dZ ⊢
      go_wp2
      go_roundw
      case rel=>exact ⟨j+1,by omega,by go_num,Lib.hid (eL.out (by first|rfl|trivial)),dZ⟩
      case measure=>simp [intOf];omega
     | false=>as_aux_lemma=>
      go_wp2
      refine wp_region_class (w₀:=W) HB.out.drew (by kernel_rfl) (by kernel_rfl) ?_
      repeat (go_big_quiet_step ((go_at_call 25;exact CW.calls (eI.out _ (CW.h _)))))
      refine wpQuiet_nil ?_
      rintro _ ⟨s,rfl⟩
      have dZ:=Lib.hid s.h
      generalize s.val=W4 at dZ ⊢
      go_wp2
      go_ret
      exact ⟨rb (eM.out (by first|rfl|trivial)).symm,Mem.on dY.out dZ.out⟩
    ·have tl : decide ((j:Int)<(aH:Int))=false:=decide_eq_false (by omega)
     obtain rfl:j=aH:=by omega
     have fY:=Lib.hid (take_all_eq fC.out fD.out HL.out)
     have k5:=(HB.out.cell (p:=⟨w.heap.size,5,none⟩) eA.out).trans (X1.out.at_ 5)
     have o5:=(HB.out.cell (p:=⟨w.heap.size+1,5,none⟩) eB.out).trans (X2.out.at_ 5)
     go_wp2
     clear k5 o5 tl HL fA fB eU
     go_loopw [7] (fun i wr=>∃j:Nat,j≤aJ∧i= .int .i64 (j:Int)∧Hid (aO.take j=aT.take j)∧Hid (Below W.heap.size W wr)) (fun i _=>aJ+1 - (intOf i).toNat)
     case atStart=>exact ⟨0,Nat.zero_le _,rfl,Lib.hid (by rw [List.take_zero,List.take_zero]),HB⟩
     case round=>
      obtain ⟨j,hj,rfl,HL,HB⟩:=hrel
      by_cases hlt:j<aJ
      ·obtain ⟨x,hx⟩:=some_at fG.out hlt
       obtain ⟨y,hy⟩:=some_at fH.out hlt
       have tl:decide ((j:Int)<(aJ:Int))=true:=decide_eq_true (by omega)
       have hlt' :(j:Int)<(aJ:Int):=by omega
       have hlt2:(0:Int)≤(j:Int):=by omega
       obtain ⟨b1,z1,Ax,nx,cx,rfl,gE,p0,in1⟩:=rw_at fE.out hx
       obtain ⟨b2,z2,Ak,nk,ck,rfl,gD,r0,in2⟩:=rw_at fF.out hy
       obtain ⟨q,hq⟩:∃q,eqB x y=q:=⟨_,rfl⟩
       have eI:=Lib.hid (show ∀W',Below W.heap.size W W' →Calls Tryz.prog 26 #[.slice Ax nx cx, .slice Ak nk ck] W' fun e w' =>e= .returned (.bool q)∧Below W'.heap.size W' w' from fun W' hW=>by
        rw [←hq]
        exact refSame_row x y [.slice Ax nx cx] [.slice Ak nk ck] W' (DtIn.on in1 (Mem.on dY.out hW)) (DtIn.on in2 (Mem.on dY.out hW)))
       have eJ:q=true→aO.take (j+1)=aT.take (j+1):=fun e=>by
        have hxy:x=y:=eqB_iff.1 (hq.trans e)
        exact take_on hx (hxy▸hy) HL.out
       have eK:q=false→aO≠aT:=fun e=>ne_at hx hy (fun g=>by rw [eqB_yes g] at hq;rw [e] at hq;cases hq)
       have c0:∀s:CW W,s.val.cell? ⟨b1,z1+j,none⟩=some (.slice Ax nx cx):=fun s=>((Mem.on dY.out s.h).cell (p:=⟨b1,z1+j,none⟩) gE).trans p0
       have d0:∀s:CW W,s.val.cell? ⟨b2,z2+j,none⟩=some (.slice Ak nk ck):=fun s=>((Mem.on dY.out s.h).cell (p:=⟨b2,z2+j,none⟩) gD).trans r0
       clear p0 r0
       have k7:=(HB.out.cell (p:=⟨w.heap.size,7,none⟩) eA.out).trans (X1.out.at_ 7)
       have o7:=(HB.out.cell (p:=⟨w.heap.size+1,7,none⟩) eB.out).trans (X2.out.at_ 7)
       have kk7:∀s:CW W,s.val.cell? ⟨w.heap.size,7,none⟩=some (.slice (some ⟨b1,z1,none⟩) aJ bI):=fun s=>(s.h.cell (p:=⟨w.heap.size,7,none⟩) eA.out).trans (X1.out.at_ 7)
       have oo7:∀s:CW W,s.val.cell? ⟨w.heap.size+1,7,none⟩=some (.slice (some ⟨b2,z2,none⟩) aJ bN):=fun s=>(s.h.cell (p:=⟨w.heap.size+1,7,none⟩) eB.out).trans (X2.out.at_ 7)
       clear hx hy hq in1 in2 gE gD
       have eL:=Lib.hid (show q=true→aO.take (j+1)=aT.take (j+1) from fun e=>eJ e)
       have eM:=Lib.hid (show q=false→z=false from fun e=>eV.out (eK e))
       clear eJ eK
       cases q with
       | true=>as_aux_lemma=>
        go_wp2
        refine wp_region_class (w₀:=W) HB.out.drew (by kernel_rfl) (by kernel_rfl) ?_
        repeat (go_big_quiet_step ((go_at_call 26;exact CW.calls (eI.out _ (CW.h _)))))
        refine wpQuiet_nil ?_
        rintro _ ⟨s,rfl⟩
        have dZ:=Lib.hid s.h
        generalize s.val=W4 at dZ ⊢
        go_wp2
        go_roundw
        case rel=>exact ⟨j+1,by omega,by go_num,Lib.hid (eL.out (by first|rfl|trivial)),dZ⟩
        case measure=>simp [intOf];omega
       | false=>as_aux_lemma=>
        go_wp2
        refine wp_region_class (w₀:=W) HB.out.drew (by kernel_rfl) (by kernel_rfl) ?_
        repeat (go_big_quiet_step ((go_at_call 26;exact CW.calls (eI.out _ (CW.h _)))))
        refine wpQuiet_nil ?_
        rintro _ ⟨s,rfl⟩
        have dZ:=Lib.hid s.h
        generalize s.val=W4 at dZ ⊢
        go_wp2
        go_ret
        exact ⟨rb (eM.out (by first|rfl|trivial)).symm,Mem.on dY.out dZ.out⟩
      ·have tl : decide ((j:Int)<(aJ:Int))=false:=decide_eq_false (by omega)
       obtain rfl:j=aJ:=by omega
       have fZ:=Lib.hid (take_all_eq fG.out fH.out HL.out)
       have k7:=(HB.out.cell (p:=⟨w.heap.size,7,none⟩) eA.out).trans (X1.out.at_ 7)
       have o7:=(HB.out.cell (p:=⟨w.heap.size+1,7,none⟩) eB.out).trans (X2.out.at_ 7)
       go_wp2
       clear k7 o7 tl HL fE fF eV
       go_loopw [8] (fun i wr=>∃j:Nat,j≤aK∧i= .int .i64 (j:Int)∧Hid (aP.take j=aU.take j)∧Hid (Below W.heap.size W wr)) (fun i _=>aK+1 - (intOf i).toNat)
       case atStart=>exact ⟨0,Nat.zero_le _,rfl,Lib.hid (by rw [List.take_zero,List.take_zero]),HB⟩
       case round=>
        obtain ⟨j,hj,rfl,HL,HB⟩:=hrel
        by_cases hlt:j<aK
        ·obtain ⟨x,hx⟩:=some_at fK.out hlt
         obtain ⟨y,hy⟩:=some_at fL.out hlt
         have tl:decide ((j:Int)<(aK:Int))=true:=decide_eq_true (by omega)
         have hlt' :(j:Int)<(aK:Int):=by omega
         have hlt2:(0:Int)≤(j:Int):=by omega
         obtain ⟨b1,z1,kx,ox,vkx,vnx,vsx,nsx,Ax,nx,cx,rfl,gE,at1,in1⟩:=se_at2 fI.out hx
         obtain ⟨b2,z2,ky,oy,vky,vny,vsy,nsy,Ay,ny,cy,rfl,gD,at2,in2⟩:=se_at2 fJ.out hy
         obtain ⟨xn,xe⟩:=x
         obtain ⟨yn,ye⟩:=y
         have c0:∀s:CW W,s.val.cell? ⟨b1,z1+j*8,none⟩=some (.string (txt xn)):=fun s=>((Mem.on dY.out s.h).cell (p:=⟨b1,z1+j*8,none⟩) gE).trans (at1 0 _ rfl)
         have c1:∀s:CW W,s.val.cell? ⟨b1,z1+j*8+1,none⟩=some (.int .i64 kx):=fun s=>((Mem.on dY.out s.h).cell (p:=⟨b1,z1+j*8+1,none⟩) gE).trans (at1 1 _ rfl)
         have c2:∀s:CW W,s.val.cell? ⟨b1,z1+j*8+2,none⟩=some (.int .i64 ox):=fun s=>((Mem.on dY.out s.h).cell (p:=⟨b1,z1+j*8+2,none⟩) gE).trans (at1 2 _ rfl)
         have c3:∀s:CW W,s.val.cell? ⟨b1,z1+j*8+3,none⟩=some (.int .i64 vkx):=fun s=>((Mem.on dY.out s.h).cell (p:=⟨b1,z1+j*8+3,none⟩) gE).trans (at1 3 _ rfl)
         have c4:∀s:CW W,s.val.cell? ⟨b1,z1+j*8+4,none⟩=some (.int .i64 vnx):=fun s=>((Mem.on dY.out s.h).cell (p:=⟨b1,z1+j*8+4,none⟩) gE).trans (at1 4 _ rfl)
         have c5:∀s:CW W,s.val.cell? ⟨b1,z1+j*8+5,none⟩=some (.string vsx):=fun s=>((Mem.on dY.out s.h).cell (p:=⟨b1,z1+j*8+5,none⟩) gE).trans (at1 5 _ rfl)
         have c6:∀s:CW W,s.val.cell? ⟨b1,z1+j*8+6,none⟩=some (.string nsx):=fun s=>((Mem.on dY.out s.h).cell (p:=⟨b1,z1+j*8+6,none⟩) gE).trans (at1 6 _ rfl)
         have c7:∀s:CW W,s.val.cell? ⟨b1,z1+j*8+7,none⟩=some (.slice Ax nx cx):=fun s=>((Mem.on dY.out s.h).cell (p:=⟨b1,z1+j*8+7,none⟩) gE).trans (at1 7 _ rfl)
         have d0:∀s:CW W,s.val.cell? ⟨b2,z2+j*8,none⟩=some (.string (txt yn)):=fun s=>((Mem.on dY.out s.h).cell (p:=⟨b2,z2+j*8,none⟩) gD).trans (at2 0 _ rfl)
         have d1:∀s:CW W,s.val.cell? ⟨b2,z2+j*8+1,none⟩=some (.int .i64 ky):=fun s=>((Mem.on dY.out s.h).cell (p:=⟨b2,z2+j*8+1,none⟩) gD).trans (at2 1 _ rfl)
         have d2:∀s:CW W,s.val.cell? ⟨b2,z2+j*8+2,none⟩=some (.int .i64 oy):=fun s=>((Mem.on dY.out s.h).cell (p:=⟨b2,z2+j*8+2,none⟩) gD).trans (at2 2 _ rfl)
         have d3:∀s:CW W,s.val.cell? ⟨b2,z2+j*8+3,none⟩=some (.int .i64 vky):=fun s=>((Mem.on dY.out s.h).cell (p:=⟨b2,z2+j*8+3,none⟩) gD).trans (at2 3 _ rfl)
         have d4:∀s:CW W,s.val.cell? ⟨b2,z2+j*8+4,none⟩=some (.int .i64 vny):=fun s=>((Mem.on dY.out s.h).cell (p:=⟨b2,z2+j*8+4,none⟩) gD).trans (at2 4 _ rfl)
         have d5:∀s:CW W,s.val.cell? ⟨b2,z2+j*8+5,none⟩=some (.string vsy):=fun s=>((Mem.on dY.out s.h).cell (p:=⟨b2,z2+j*8+5,none⟩) gD).trans (at2 5 _ rfl)
         have d6:∀s:CW W,s.val.cell? ⟨b2,z2+j*8+6,none⟩=some (.string nsy):=fun s=>((Mem.on dY.out s.h).cell (p:=⟨b2,z2+j*8+6,none⟩) gD).trans (at2 6 _ rfl)
         have d7:∀s:CW W,s.val.cell? ⟨b2,z2+j*8+7,none⟩=some (.slice Ay ny cy):=fun s=>((Mem.on dY.out s.h).cell (p:=⟨b2,z2+j*8+7,none⟩) gD).trans (at2 7 _ rfl)
         have k15:=(HB.out.cell (p:=⟨w.heap.size,15,none⟩) eA.out).trans (X1.out.at_ 15)
         have o15:=(HB.out.cell (p:=⟨w.heap.size+1,15,none⟩) eB.out).trans (X2.out.at_ 15)
         have kk15:∀s:CW W,s.val.cell? ⟨w.heap.size,15,none⟩=some (.slice (some ⟨b1,z1,none⟩) aK bJ):=fun s=>(s.h.cell (p:=⟨w.heap.size,15,none⟩) eA.out).trans (X1.out.at_ 15)
         have oo15:∀s:CW W,s.val.cell? ⟨w.heap.size+1,15,none⟩=some (.slice (some ⟨b2,z2,none⟩) aK bO):=fun s=>(s.h.cell (p:=⟨w.heap.size+1,15,none⟩) eB.out).trans (X2.out.at_ 15)
         by_cases hd:xn=yn
         case neg=>
          have HF:=Lib.hid (eS.out (ne_at hx hy (fun e=>hd (by injection e))))
          obtain ⟨t3,t4,t5⟩:=txt_ne hd
          clear hx hy gE gD hd in1 in2 at1 at2
          go_wp2
          refine wp_region_class (w₀:=W) HB.out.drew (by kernel_rfl) (by kernel_rfl) ?_
          repeat (go_big_quiet_step (fail))
          refine wpQuiet_nil ?_
          rintro _ ⟨s,rfl⟩
          have dZ:=Lib.hid s.h
          generalize s.val=W4 at dZ ⊢
          go_wp2
          go_ret
          exact ⟨rb HF.out.symm,Mem.on dY.out dZ.out⟩
         subst hd
         obtain ⟨q,hq⟩:∃q,eqB xe ye=q:=⟨_,rfl⟩
         have eI:=Lib.hid (show ∀W',Below W.heap.size W W' →Calls Tryz.prog 24 #[.agg #[.int .i64 kx, .int .i64 ox, .int .i64 vkx, .int .i64 vnx, .string vsx, .string nsx, .slice Ax nx cx], .agg #[.int .i64 ky, .int .i64 oy, .int .i64 vky, .int .i64 vny, .string vsy, .string nsy, .slice Ay ny cy]] W' fun e w' =>e= .returned (.bool q)∧Below W'.heap.size W' w' from fun W' hW=>by
          rw [←hq]
          exact same_ex10 xe ye [.int .i64 kx, .int .i64 ox, .int .i64 vkx, .int .i64 vnx, .string vsx, .string nsx, .slice Ax nx cx] [.int .i64 ky, .int .i64 oy, .int .i64 vky, .int .i64 vny, .string vsy, .string nsy, .slice Ay ny cy] W' (DtIn.on in1 (Mem.on dY.out hW)) (DtIn.on in2 (Mem.on dY.out hW)))
         have eJ:q=true→aP.take (j+1)=aU.take (j+1):=fun e=>by
          have hxy:xe=ye:=eqB_iff.1 (hq.trans e)
          exact take_on hx (hxy▸hy) HL.out
         have eK:q=false→aP≠aU:=fun e=>ne_at hx hy (fun g=>by
          have g:xe=ye:=by injection g
          rw [eqB_yes g] at hq;rw [e] at hq;cases hq)
         clear hx hy hq in1 in2 gE gD at1 at2
         have eL:=Lib.hid (show q=true→aP.take (j+1)=aU.take (j+1) from fun e=>eJ e)
         have eM:=Lib.hid (show q=false→z=false from fun e=>eS.out (eK e))
         clear eJ eK
         cases q with
         | true=>as_aux_lemma=>
          go_wp2
          refine wp_region_class (w₀:=W) HB.out.drew (by kernel_rfl) (by kernel_rfl) ?_
          repeat (go_big_quiet_step ((go_at_call 24;exact CW.calls (eI.out _ (CW.h _)))))
          refine wpQuiet_nil ?_
          rintro _ ⟨s,rfl⟩
          have dZ:=Lib.hid s.h
          generalize s.val=W4 at dZ ⊢
          go_wp2
          go_roundw
          case rel=>exact ⟨j+1,by omega,by go_num,Lib.hid (eL.out (by first|rfl|trivial)),dZ⟩
          case measure=>simp [intOf];omega
         | false=>as_aux_lemma=>
          go_wp2
          refine wp_region_class (w₀:=W) HB.out.drew (by kernel_rfl) (by kernel_rfl) ?_
          repeat (go_big_quiet_step ((go_at_call 24;exact CW.calls (eI.out _ (CW.h _)))))
          refine wpQuiet_nil ?_
          rintro _ ⟨s,rfl⟩
          have dZ:=Lib.hid s.h
          generalize s.val=W4 at dZ ⊢
          go_wp2
          go_ret
          exact ⟨rb (eM.out (by first|rfl|trivial)).symm,Mem.on dY.out dZ.out⟩
        ·have tl : decide ((j:Int)<(aK:Int))=false:=decide_eq_false (by omega)
         obtain rfl:j=aK:=by omega
         have gA:=Lib.hid (take_all_eq fK.out fL.out HL.out)
         have k15:=(HB.out.cell (p:=⟨w.heap.size,15,none⟩) eA.out).trans (X1.out.at_ 15)
         have o15:=(HB.out.cell (p:=⟨w.heap.size+1,15,none⟩) eB.out).trans (X2.out.at_ 15)
         go_wp2
         clear k15 o15 tl HL fI fJ eS
         go_loopw [9] (fun i wr=>∃j:Nat,j≤aL∧i= .int .i64 (j:Int)∧Hid (aQ.take j=aV.take j)∧Hid (Below W.heap.size W wr)) (fun i _=>aL+1 - (intOf i).toNat)
         case atStart=>exact ⟨0,Nat.zero_le _,rfl,Lib.hid (by rw [List.take_zero,List.take_zero]),HB⟩
         case round=>
          obtain ⟨j,hj,rfl,HL,HB⟩:=hrel
          by_cases hlt:j<aL
          ·obtain ⟨x,hx⟩:=some_at fO.out hlt
           obtain ⟨y,hy⟩:=some_at fP.out hlt
           have tl:decide ((j:Int)<(aL:Int))=true:=decide_eq_true (by omega)
           have hlt' :(j:Int)<(aL:Int):=by omega
           have hlt2:(0:Int)≤(j:Int):=by omega
           obtain ⟨b1,z1,kx,ox,vkx,vnx,vsx,nsx,Ax,nx,cx,rfl,gE,at1,in1⟩:=or_at2 fM.out hx
           obtain ⟨b2,z2,ky,oy,vky,vny,vsy,nsy,Ay,ny,cy,rfl,gD,at2,in2⟩:=or_at2 fN.out hy
           obtain ⟨xe,xb⟩:=x
           obtain ⟨ye,yb⟩:=y
           have c0:∀s:CW W,s.val.cell? ⟨b1,z1+j*8,none⟩=some (.int .i64 kx):=fun s=>((Mem.on dY.out s.h).cell (p:=⟨b1,z1+j*8,none⟩) gE).trans (at1 0 _ rfl)
           have c1:∀s:CW W,s.val.cell? ⟨b1,z1+j*8+1,none⟩=some (.int .i64 ox):=fun s=>((Mem.on dY.out s.h).cell (p:=⟨b1,z1+j*8+1,none⟩) gE).trans (at1 1 _ rfl)
           have c2:∀s:CW W,s.val.cell? ⟨b1,z1+j*8+2,none⟩=some (.int .i64 vkx):=fun s=>((Mem.on dY.out s.h).cell (p:=⟨b1,z1+j*8+2,none⟩) gE).trans (at1 2 _ rfl)
           have c3:∀s:CW W,s.val.cell? ⟨b1,z1+j*8+3,none⟩=some (.int .i64 vnx):=fun s=>((Mem.on dY.out s.h).cell (p:=⟨b1,z1+j*8+3,none⟩) gE).trans (at1 3 _ rfl)
           have c4:∀s:CW W,s.val.cell? ⟨b1,z1+j*8+4,none⟩=some (.string vsx):=fun s=>((Mem.on dY.out s.h).cell (p:=⟨b1,z1+j*8+4,none⟩) gE).trans (at1 4 _ rfl)
           have c5:∀s:CW W,s.val.cell? ⟨b1,z1+j*8+5,none⟩=some (.string nsx):=fun s=>((Mem.on dY.out s.h).cell (p:=⟨b1,z1+j*8+5,none⟩) gE).trans (at1 5 _ rfl)
           have c6:∀s:CW W,s.val.cell? ⟨b1,z1+j*8+6,none⟩=some (.slice Ax nx cx):=fun s=>((Mem.on dY.out s.h).cell (p:=⟨b1,z1+j*8+6,none⟩) gE).trans (at1 6 _ rfl)
           have c7:∀s:CW W,s.val.cell? ⟨b1,z1+j*8+7,none⟩=some (.bool xb):=fun s=>((Mem.on dY.out s.h).cell (p:=⟨b1,z1+j*8+7,none⟩) gE).trans (at1 7 _ rfl)
           have d0:∀s:CW W,s.val.cell? ⟨b2,z2+j*8,none⟩=some (.int .i64 ky):=fun s=>((Mem.on dY.out s.h).cell (p:=⟨b2,z2+j*8,none⟩) gD).trans (at2 0 _ rfl)
           have d1:∀s:CW W,s.val.cell? ⟨b2,z2+j*8+1,none⟩=some (.int .i64 oy):=fun s=>((Mem.on dY.out s.h).cell (p:=⟨b2,z2+j*8+1,none⟩) gD).trans (at2 1 _ rfl)
           have d2:∀s:CW W,s.val.cell? ⟨b2,z2+j*8+2,none⟩=some (.int .i64 vky):=fun s=>((Mem.on dY.out s.h).cell (p:=⟨b2,z2+j*8+2,none⟩) gD).trans (at2 2 _ rfl)
           have d3:∀s:CW W,s.val.cell? ⟨b2,z2+j*8+3,none⟩=some (.int .i64 vny):=fun s=>((Mem.on dY.out s.h).cell (p:=⟨b2,z2+j*8+3,none⟩) gD).trans (at2 3 _ rfl)
           have d4:∀s:CW W,s.val.cell? ⟨b2,z2+j*8+4,none⟩=some (.string vsy):=fun s=>((Mem.on dY.out s.h).cell (p:=⟨b2,z2+j*8+4,none⟩) gD).trans (at2 4 _ rfl)
           have d5:∀s:CW W,s.val.cell? ⟨b2,z2+j*8+5,none⟩=some (.string nsy):=fun s=>((Mem.on dY.out s.h).cell (p:=⟨b2,z2+j*8+5,none⟩) gD).trans (at2 5 _ rfl)
           have d6:∀s:CW W,s.val.cell? ⟨b2,z2+j*8+6,none⟩=some (.slice Ay ny cy):=fun s=>((Mem.on dY.out s.h).cell (p:=⟨b2,z2+j*8+6,none⟩) gD).trans (at2 6 _ rfl)
           have d7:∀s:CW W,s.val.cell? ⟨b2,z2+j*8+7,none⟩=some (.bool yb):=fun s=>((Mem.on dY.out s.h).cell (p:=⟨b2,z2+j*8+7,none⟩) gD).trans (at2 7 _ rfl)
           have k16:=(HB.out.cell (p:=⟨w.heap.size,16,none⟩) eA.out).trans (X1.out.at_ 16)
           have o16:=(HB.out.cell (p:=⟨w.heap.size+1,16,none⟩) eB.out).trans (X2.out.at_ 16)
           have kk16:∀s:CW W,s.val.cell? ⟨w.heap.size,16,none⟩=some (.slice (some ⟨b1,z1,none⟩) aL bK):=fun s=>(s.h.cell (p:=⟨w.heap.size,16,none⟩) eA.out).trans (X1.out.at_ 16)
           have oo16:∀s:CW W,s.val.cell? ⟨w.heap.size+1,16,none⟩=some (.slice (some ⟨b2,z2,none⟩) aL bP):=fun s=>(s.h.cell (p:=⟨w.heap.size+1,16,none⟩) eB.out).trans (X2.out.at_ 16)
           by_cases hd:xb=yb
           case neg=>
            have HF:=Lib.hid (eT.out (ne_at hx hy (fun e=>hd (by injection e))))
            clear hx hy gE gD in1 in2 at1 at2
            obtain ⟨rfl,rfl⟩|⟨rfl,rfl⟩:(xb=true∧yb=false) ∨ (xb=false∧yb=true):=by cases xb<;>cases yb<;>simp_all
            ·clear hd
             go_wp2
             refine wp_region_class (w₀:=W) HB.out.drew (by kernel_rfl) (by kernel_rfl) ?_
             repeat (go_big_quiet_step (fail))
             refine wpQuiet_nil ?_
             rintro _ ⟨s,rfl⟩
             have dZ:=Lib.hid s.h
             generalize s.val=W4 at dZ ⊢
             go_wp2
             go_ret
             exact ⟨rb HF.out.symm,Mem.on dY.out dZ.out⟩
            ·clear hd
             go_wp2
             refine wp_region_class (w₀:=W) HB.out.drew (by kernel_rfl) (by kernel_rfl) ?_
             repeat (go_big_quiet_step (fail))
             refine wpQuiet_nil ?_
             rintro _ ⟨s,rfl⟩
             have dZ:=Lib.hid s.h
             generalize s.val=W4 at dZ ⊢
             go_wp2
             go_ret
             exact ⟨rb HF.out.symm,Mem.on dY.out dZ.out⟩
           subst hd
           obtain ⟨q,hq⟩:∃q,eqB xe ye=q:=⟨_,rfl⟩
           have eI:=Lib.hid (show ∀W',Below W.heap.size W W' →Calls Tryz.prog 24 #[.agg #[.int .i64 kx, .int .i64 ox, .int .i64 vkx, .int .i64 vnx, .string vsx, .string nsx, .slice Ax nx cx], .agg #[.int .i64 ky, .int .i64 oy, .int .i64 vky, .int .i64 vny, .string vsy, .string nsy, .slice Ay ny cy]] W' fun e w' =>e= .returned (.bool q)∧Below W'.heap.size W' w' from fun W' hW=>by
            rw [←hq]
            exact same_ex10 xe ye [.int .i64 kx, .int .i64 ox, .int .i64 vkx, .int .i64 vnx, .string vsx, .string nsx, .slice Ax nx cx] [.int .i64 ky, .int .i64 oy, .int .i64 vky, .int .i64 vny, .string vsy, .string nsy, .slice Ay ny cy] W' (DtIn.on in1 (Mem.on dY.out hW)) (DtIn.on in2 (Mem.on dY.out hW)))
           have eJ:q=true→aQ.take (j+1)=aV.take (j+1):=fun e=>by
            have hxy:xe=ye:=eqB_iff.1 (hq.trans e)
            exact take_on hx (hxy▸hy) HL.out
           have eK:q=false→aQ≠aV:=fun e=>ne_at hx hy (fun g=>by
            have g:xe=ye:=by injection g
            rw [eqB_yes g] at hq;rw [e] at hq;cases hq)
           clear hx hy hq in1 in2 gE gD at1 at2
           have eL:=Lib.hid (show q=true→aQ.take (j+1)=aV.take (j+1) from fun e=>eJ e)
           have eM:=Lib.hid (show q=false→z=false from fun e=>eT.out (eK e))
           clear eJ eK
           cases q with
           | true=>as_aux_lemma=>
            go_wp2
            refine wp_region_class (w₀:=W) HB.out.drew (by kernel_rfl) (by kernel_rfl) ?_
            repeat (go_big_quiet_step ((go_at_call 24;exact CW.calls (eI.out _ (CW.h _)))))
            refine wpQuiet_nil ?_
            rintro _ ⟨s,rfl⟩
            have dZ:=Lib.hid s.h
            generalize s.val=W4 at dZ ⊢
            go_wp2
            go_roundw
            case rel=>exact ⟨j+1,by omega,by go_num,Lib.hid (eL.out (by first|rfl|trivial)),dZ⟩
            case measure=>simp [intOf];omega
           | false=>as_aux_lemma=>
            go_wp2
            refine wp_region_class (w₀:=W) HB.out.drew (by kernel_rfl) (by kernel_rfl) ?_
            repeat (go_big_quiet_step ((go_at_call 24;exact CW.calls (eI.out _ (CW.h _)))))
            refine wpQuiet_nil ?_
            rintro _ ⟨s,rfl⟩
            have dZ:=Lib.hid s.h
            generalize s.val=W4 at dZ ⊢
            go_wp2
            go_ret
            exact ⟨rb (eM.out (by first|rfl|trivial)).symm,Mem.on dY.out dZ.out⟩
          ·have tl:decide ((j:Int)<(aL:Int))=false:=decide_eq_false (by omega)
           obtain rfl:j=aL:=by omega
           have gB:=Lib.hid (take_all_eq fO.out fP.out HL.out)
           have k16:=(HB.out.cell (p:=⟨w.heap.size,16,none⟩) eA.out).trans (X1.out.at_ 16)
           have o16:=(HB.out.cell (p:=⟨w.heap.size+1,16,none⟩) eB.out).trans (X2.out.at_ 16)
           go_wp2
           clear k16 o16 tl HL fM fN eT
           go_loopw [10] (fun i wr=>∃j:Nat,j≤aM∧i= .int .i64 (j:Int)∧Hid (aR.take j=aW.take j)∧Hid (Below W.heap.size W wr)) (fun i _=>aM+1 - (intOf i).toNat)
           case atStart=>exact ⟨0,Nat.zero_le _,rfl,Lib.hid (by rw [List.take_zero,List.take_zero]),HB⟩
           case round=>
            obtain ⟨j,hj,rfl,HL,HB⟩:=hrel
            by_cases hlt:j<aM
            ·obtain ⟨x,hx⟩:=some_at fQ.out hlt
             obtain ⟨y,hy⟩:=some_at fR.out hlt
             have tl:decide ((j:Int)<(aM:Int))=true:=decide_eq_true (by omega)
             have hlt' :(j:Int)<(aM:Int):=by omega
             have hlt2:(0:Int)≤(j:Int):=by omega
             obtain ⟨b1,z1,cs1,rfl,gE,at1,in1⟩:=kid_at fV.out hx
             obtain ⟨b2,z2,cs2,rfl,gD,at2,in2⟩:=kid_at fW.out hy
             have hl1:=Lib.hid (st_one in1).1
             have hl2:=Lib.hid (st_one in2).1
             obtain ⟨q,hq⟩:∃q,eqB x y=q:=⟨_,rfl⟩
             have eI:=Lib.hid (show ∀W',Below W.heap.size W W' →Calls Tryz.prog 11 #[.agg cs1.toArray, .agg cs2.toArray] W' fun e w' =>e= .returned (.bool q)∧Below W'.heap.size W' w' from fun W' hW=>by
              rw [←hq]
              exact HI.out x (List.mem_of_getElem? hx) y cs1 cs2 W' (DtIn.on in1 (Mem.on dY.out hW)) (DtIn.on in2 (Mem.on dY.out hW)))
             have eJ:q=true→aR.take (j+1)=aW.take (j+1):=fun e=>by
              have hxy:x=y:=eqB_iff.1 (hq.trans e)
              exact take_on hx (hxy▸hy) HL.out
             have eK:q=false→aR≠aW:=fun e=>ne_at hx hy (fun g=>by rw [eqB_yes g] at hq;rw [e] at hq;cases hq)
             have fS:=Lib.hid (show ∀s:CW W,At s.val b1 (z1+j*21) cs1 from fun s i v hv=>((Mem.on dY.out s.h).cell (p:=⟨b1,z1+j*21+i,none⟩) gE).trans (at1 i v hv))
             have fT:=Lib.hid (show ∀s:CW W,At s.val b2 (z2+j*21) cs2 from fun s i v hv=>((Mem.on dY.out s.h).cell (p:=⟨b2,z2+j*21+i,none⟩) gD).trans (at2 i v hv))
             have k20:=(HB.out.cell (p:=⟨w.heap.size,20,none⟩) eA.out).trans (X1.out.at_ 20)
             have o20:=(HB.out.cell (p:=⟨w.heap.size+1,20,none⟩) eB.out).trans (X2.out.at_ 20)
             have kk20:∀s:CW W,s.val.cell? ⟨w.heap.size,20,none⟩=some (.slice (some ⟨b1,z1,none⟩) aM bL):=fun s=>(s.h.cell (p:=⟨w.heap.size,20,none⟩) eA.out).trans (X1.out.at_ 20)
             have oo20:∀s:CW W,s.val.cell? ⟨w.heap.size+1,20,none⟩=some (.slice (some ⟨b2,z2,none⟩) aM bQ):=fun s=>(s.h.cell (p:=⟨w.heap.size+1,20,none⟩) eB.out).trans (X2.out.at_ 20)
             clear hx hy hq in1 in2 gE gD at1 at2
             have eL:=Lib.hid (show q=true→aR.take (j+1)=aW.take (j+1) from fun e=>eJ e)
             have eM:=Lib.hid (show q=false→z=false from fun e=>fU.out (eK e))
             clear eJ eK
             cases q with
             | true=>as_aux_lemma=>
              go_wp2
              refine wp_region_class (w₀:=W) HB.out.drew (by kernel_rfl) (by kernel_rfl) ?_
              repeat (first|(refine quiet_stmt rfl _ rfl b1 (z1+j*21) rfl cs1 (by rintro _ ⟨s,rfl⟩;exact fS.out s) hl1.out ?_;simp only [Act.put,List.setIfInBounds_toArray,List.set_cons_zero,List.set_cons_succ])|(refine quiet_stmt rfl _ rfl b2 (z2+j*21) rfl cs2 (by rintro _ ⟨s,rfl⟩;exact fT.out s) hl2.out ?_;simp only [Act.put,List.setIfInBounds_toArray,List.set_cons_zero,List.set_cons_succ])|(go_big_quiet_step ((go_at_call 11;exact CW.calls (eI.out _ (CW.h _))))))
              refine wpQuiet_nil ?_
              rintro _ ⟨s,rfl⟩
              have dZ:=Lib.hid s.h
              generalize s.val=W4 at dZ ⊢
              go_wp2
              go_roundw
              case rel=>exact ⟨j+1,by omega,by go_num,Lib.hid (eL.out (by first|rfl|trivial)),dZ⟩
              case measure=>simp [intOf];omega
             | false=>as_aux_lemma=>
              go_wp2
              refine wp_region_class (w₀:=W) HB.out.drew (by kernel_rfl) (by kernel_rfl) ?_
              repeat (first|(refine quiet_stmt rfl _ rfl b1 (z1+j*21) rfl cs1 (by rintro _ ⟨s,rfl⟩;exact fS.out s) hl1.out ?_;simp only [Act.put,List.setIfInBounds_toArray,List.set_cons_zero,List.set_cons_succ])|(refine quiet_stmt rfl _ rfl b2 (z2+j*21) rfl cs2 (by rintro _ ⟨s,rfl⟩;exact fT.out s) hl2.out ?_;simp only [Act.put,List.setIfInBounds_toArray,List.set_cons_zero,List.set_cons_succ])|(go_big_quiet_step ((go_at_call 11;exact CW.calls (eI.out _ (CW.h _))))))
              refine wpQuiet_nil ?_
              rintro _ ⟨s,rfl⟩
              have dZ:=Lib.hid s.h
              generalize s.val=W4 at dZ ⊢
              go_wp2
              go_ret
              exact ⟨rb (eM.out (by first|rfl|trivial)).symm,Mem.on dY.out dZ.out⟩
            ·have tl:decide ((j:Int)<(aM:Int))=false:=decide_eq_false (by omega)
             obtain rfl:j=aM:=by omega
             have gC:=Lib.hid (take_all_eq fQ.out fR.out HL.out)
             have k20:=(HB.out.cell (p:=⟨w.heap.size,20,none⟩) eA.out).trans (X1.out.at_ 20)
             have o20:=(HB.out.cell (p:=⟨w.heap.size+1,20,none⟩) eB.out).trans (X2.out.at_ 20)
             have HG:=Lib.hid (HE.out fX.out fY.out fZ.out gA.out gB.out gC.out)
             go_wp2
             go_ret
             exact ⟨rb HG.out.symm,Mem.on dY.out HB.out⟩
end Go.Proofs.YtiaomhdmllhmmaaGreatDoor.Sm
