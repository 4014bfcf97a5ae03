/- Statements, constraints, columns and tables in memory: they read as data of a shape; what  The cells of statements, constraints, columns and tables, one by one. Has a tree few parts? The document's count (registrarref10.count, Few). -/
import Derived.Test.YtcblddpapehdeaaDoorM13
import Derived.Test.YtcblddpapehdeaaDoorM04
namespace Go.Proofs.YtcblddpapehdeaaDoor.Sm
open Go.RowKit Go.Proofs.YtcblddpapehdeaaDoor.Mem Go.Proofs.YtcblddpapehdeaaDoor.Ep Go.ChangeShapes Go.WideShapes
set_option linter.unusedVariables false
def coDt (x : Co) : Dt := .rcd 3 [(0, 1), (1, 1), (2, 1)] [sDt x.nm, iDt x.ty, bDt x.nn]
def cosDt (l : List Co) : Dt := .row 3 (l.map coDt)
def cnDt (x : Cn) : Dt := .rcd 12 [(0, 1), (1, 1), (2, 1), (3, 7), (10, 1), (11, 1)] [sDt x.nm, iDt x.kind, ssDt x.cols, exDt x.chk, sDt x.tbl, ssDt x.refs]
def cnsDt (l : List Cn) : Dt := .row 12 (l.map cnDt)
abbrev Tb := Tm.Ta
def ixDt (x : Bs × List Bs) : Dt := .rcd 2 [(0, 1), (1, 1)] [sDt x.1, ssDt x.2]
def tbDt (x : Tb) : Dt := .rcd 6 [(0, 1), (1, 1), (2, 1), (3, 1), (4, 1), (5, 1)] [sDt x.nm, sDt x.own, iDt x.ver, cosDt x.cols, cnsDt x.cons, .row 2 (x.idx.map ixDt)]
def fCo (x : Co) : Prop := fS x.nm ∧ i64ok x.ty
def fCn (x : Cn) : Prop := fS x.nm ∧ i64ok x.kind ∧ fSs x.cols ∧ Fine x.chk ∧ fS x.tbl ∧ fSs x.refs
def fTb (x : Tb) : Prop := (fS x.nm ∧ fS x.own ∧ i64ok x.ver) ∧ (x.cols.length ≤ maxLen ∧ ∀ c ∈ x.cols, fCo c) ∧ (x.cons.length ≤ maxLen ∧ ∀ c ∈ x.cons, fCn c) ∧ (x.idx.length ≤ maxLen ∧ ∀ c ∈ x.idx, fS c.1 ∧ fSs c.2)
section
variable {P : Program} {tI tS tB lS : TypeId} {d : Dt}
/-- How it has columns and constraints. -/
structure HasC (P : Program) (tI tS tB lS tE tV tL tCo lCo tCn lCn : TypeId) : Prop where
  b : HasB P tI tS tB lS
  e : HasEx P tE tV tL
  co : IsRec P tCo 3 [(0, 1, tS), (1, 1, tI), (2, 1, tB)]
  cos : IsList P lCo tCo 3
  cn : IsRec P tCn 12 [(0, 1, tS), (1, 1, tI), (2, 1, lS), (3, 7, tE), (10, 1, tS), (11, 1, lS)]
  cns : IsList P lCn tCn 12
variable {tE tV tL tCo lCo tCn lCn : TypeId}
theorem shp_co (F : HasC P tI tS tB lS tE tV tL tCo lCo tCn lCn) (h : Shp P tCo d) : ∃ x, d = coDt x ∧ fCo x := by
  obtain ⟨ds, rfl, hl, hf⟩ := rec_open F.co h
  match ds, hl with
  | [y0, y1, y2], _ =>
    obtain ⟨nm, rfl, g0⟩ := shp_s F.b (hf 0 _ y0 rfl rfl)
    obtain ⟨ty, rfl, g1⟩ := shp_i F.b (hf 1 _ y1 rfl rfl)
    obtain ⟨nn, rfl⟩ := shp_b F.b (hf 2 _ y2 rfl rfl)
    exact ⟨⟨nm, ty, nn⟩, rfl, g0, g1⟩
theorem shp_cos (F : HasC P tI tS tB lS tE tV tL tCo lCo tCn lCn) (h : Shp P lCo d) : ∃ l, d = cosDt l ∧ l.length ≤ maxLen ∧ ∀ x ∈ l, fCo x := shp_l F.cos (by decide) (fun x hx => shp_co F hx) h
theorem shp_cn (F : HasC P tI tS tB lS tE tV tL tCo lCo tCn lCn) (h : Shp P tCn d) : ∃ x, d = cnDt x ∧ fCn x := by
  obtain ⟨ds, rfl, hl, hf⟩ := rec_open F.cn h
  match ds, hl with
  | [y0, y1, y2, y3, y4, y5], _ =>
    obtain ⟨nm, rfl, g0⟩ := shp_s F.b (hf 0 _ y0 rfl rfl)
    obtain ⟨kd, rfl, g1⟩ := shp_i F.b (hf 1 _ y1 rfl rfl)
    obtain ⟨cols, rfl, g2⟩ := shp_ss F.b (hf 2 _ y2 rfl rfl)
    obtain ⟨chk, rfl, g3⟩ := (shp_ex F.e y3).1 (hf 3 _ y3 rfl rfl)
    obtain ⟨tb, rfl, g4⟩ := shp_s F.b (hf 4 _ y4 rfl rfl)
    obtain ⟨refs, rfl, g5⟩ := shp_ss F.b (hf 5 _ y5 rfl rfl)
    exact ⟨⟨nm, kd, cols, chk, tb, refs⟩, rfl, g0, g1, g2, g3, g4, g5⟩
theorem shp_cns (F : HasC P tI tS tB lS tE tV tL tCo lCo tCn lCn) (h : Shp P lCn d) : ∃ l, d = cnsDt l ∧ l.length ≤ maxLen ∧ ∀ x ∈ l, fCn x := shp_l F.cns (by decide) (fun x hx => shp_cn F hx) h
/-- How it has tables. -/
structure HasT (P : Program) (tI tS tB lS tE tV tL tCo lCo tCn lCn tIx lIx tT : TypeId) : Prop where
  c : HasC P tI tS tB lS tE tV tL tCo lCo tCn lCn
  ix : IsRec P tIx 2 [(0, 1, tS), (1, 1, lS)]
  ixs : IsList P lIx tIx 2
  t : IsRec P tT 6 [(0, 1, tS), (1, 1, tS), (2, 1, tI), (3, 1, lCo), (4, 1, lCn), (5, 1, lIx)]
variable {tIx lIx tT : TypeId}
theorem shp_ix (F : HasT P tI tS tB lS tE tV tL tCo lCo tCn lCn tIx lIx tT) (h : Shp P tIx d) : ∃ x, d = ixDt x ∧ fS x.1 ∧ fSs x.2 := by
  obtain ⟨ds, rfl, hl, hf⟩ := rec_open F.ix h
  match ds, hl with
  | [y0, y1], _ =>
    obtain ⟨nm, rfl, g0⟩ := shp_s F.c.b (hf 0 _ y0 rfl rfl)
    obtain ⟨cols, rfl, g1⟩ := shp_ss F.c.b (hf 1 _ y1 rfl rfl)
    exact ⟨(nm, cols), rfl, g0, g1⟩
theorem shp_tb (F : HasT P tI tS tB lS tE tV tL tCo lCo tCn lCn tIx lIx tT) (h : Shp P tT d) : ∃ x, d = tbDt x ∧ fTb x := by
  obtain ⟨ds, rfl, hl, hf⟩ := rec_open F.t h
  match ds, hl with
  | [y0, y1, y2, y3, y4, y5], _ =>
    obtain ⟨nm, rfl, g0⟩ := shp_s F.c.b (hf 0 _ y0 rfl rfl)
    obtain ⟨ow, rfl, g1⟩ := shp_s F.c.b (hf 1 _ y1 rfl rfl)
    obtain ⟨ver, rfl, g2⟩ := shp_i F.c.b (hf 2 _ y2 rfl rfl)
    obtain ⟨cols, rfl, g3⟩ := shp_cos F.c (hf 3 _ y3 rfl rfl)
    obtain ⟨cons, rfl, g4⟩ := shp_cns F.c (hf 4 _ y4 rfl rfl)
    obtain ⟨idx, rfl, g5⟩ := shp_l (f := ixDt) F.ixs (by decide) (fun x hx => shp_ix F hx) (hf 5 _ y5 rfl rfl)
    exact ⟨⟨nm, ow, ver, cols, cons, idx⟩, rfl, ⟨g0, g1, g2⟩, g3, g4, g5⟩
variable {lR tSe lSe tOr lOr tSt lSt : TypeId}
end
end Go.Proofs.YtcblddpapehdeaaDoor.Sm
namespace Go.Proofs.YtcblddpapehdeaaDoor.Sm
open Go.RowKit Go.Proofs.YtcblddpapehdeaaDoor.Mem Go.Proofs.YtcblddpapehdeaaDoor.Ep Go.ChangeShapes Go.WideShapes
set_option linter.unusedVariables false
/-- A slice that reads as these data, of k cells each. -/
def IsRow (w : World) (S : Nat → Prop) (k : Nat) (xs : List Dt) (v : Value) : Prop := ∃ A c, v = .slice A xs.length c ∧ xs.length ≤ c ∧ c ≤ maxLen ∧ (A = none → c = 0) ∧ RowIn w S A k xs 0
section
variable {w w' : World} {S S' : Nat → Prop}
theorem row_is {k : Nat} {xs : List Dt} {cs : List Value} : DtIn w S (.row k xs) cs ↔ ∃ v, cs = [v] ∧ IsRow w S k xs v := by
  rw [in_row]
  constructor
  · rintro ⟨A, c, rfl, h⟩
    exact ⟨_, rfl, A, c, rfl, h⟩
  · rintro ⟨v, rfl, A, c, rfl, h⟩
    exact ⟨A, c, rfl, h⟩
theorem IsRow.to {k : Nat} {xs : List Dt} {v : Value} (hS : ∀ b, S b → S' b) (hk : ∀ p : Addr, S p.block → w'.cell? p = w.cell? p) (h : IsRow w S k xs v) : IsRow w' S' k xs v := by
  obtain ⟨A, c, e, h1, h2, h3, h4⟩ := h
  exact ⟨A, c, e, h1, h2, h3, h4.to hS hk⟩
theorem i_in {n : Int} {cs : List Value} : DtIn w S (iDt n) cs ↔ cs = [.int .i64 n] := in_one
theorem s_in {l : Bs} {cs : List Value} : DtIn w S (sDt l) cs ↔ cs = [.string (txt l)] := in_one
theorem b_in {b : Bool} {cs : List Value} : DtIn w S (bDt b) cs ↔ cs = [.bool b] := in_one
theorem co_in {x : Co} {cs : List Value} : DtIn w S (coDt x) cs ↔ cs = [.string (txt x.nm), .int .i64 x.ty, .bool x.nn] := by
  unfold coDt
  rw [in_rec, rec_cons, rec_cons, rec_cons, s_in, i_in, b_in]
  constructor
  · rintro ⟨hl, h0, h1, h2, _⟩
    match cs, hl with
    | [a0, a1, a2], _ =>
      simp [span] at h0 h1 h2
      rw [h0, h1, h2]
  · rintro rfl
    exact ⟨rfl, rfl, rfl, rfl, rec_nil⟩
theorem cn_in {x : Cn} {cs : List Value} : DtIn w S (cnDt x) cs ↔ ∃ u1 e u2, cs = [.string (txt x.nm), .int .i64 x.kind, u1] ++ (e ++ [.string (txt x.tbl), u2]) ∧ IsRow w S 1 (x.cols.map sDt) u1 ∧ ExIn w S x.chk e ∧ IsRow w S 1 (x.refs.map sDt) u2 := by
  unfold cnDt ssDt
  rw [in_rec, rec_cons, rec_cons, rec_cons, rec_cons, rec_cons, rec_cons, s_in, i_in, row_is, s_in, row_is]
  constructor
  · rintro ⟨hl, h0, h1, ⟨u1, h2, g2⟩, h3, h4, ⟨u2, h5, g5⟩, _⟩
    match cs, hl with
    | [a0, a1, a2, a3, a4, a5, a6, a7, a8, a9, a10, a11], _ =>
      simp [span] at h0 h1 h2 h4 h5
      subst h0 h1 h2 h4 h5
      exact ⟨_, [a3, a4, a5, a6, a7, a8, a9], _, rfl, g2, h3, g5⟩
  · rintro ⟨u1, e, u2, rfl, g2, g3, g5⟩
    have hl := g3.len
    match e, hl with
    | [a3, a4, a5, a6, a7, a8, a9], _ => exact ⟨rfl, rfl, rfl, ⟨_, rfl, g2⟩, g3, rfl, ⟨_, rfl, g5⟩, rec_nil⟩
theorem ix_in {x : Bs × List Bs} {cs : List Value} : DtIn w S (ixDt x) cs ↔ ∃ u, cs = [.string (txt x.1), u] ∧ IsRow w S 1 (x.2.map sDt) u := by
  unfold ixDt ssDt
  rw [in_rec, rec_cons, rec_cons, s_in, row_is]
  constructor
  · rintro ⟨hl, h0, ⟨u, h1, g1⟩, _⟩
    match cs, hl with
    | [a0, a1], _ =>
      simp [span] at h0 h1
      subst h0 h1
      exact ⟨_, rfl, g1⟩
  · rintro ⟨u, rfl, g1⟩
    exact ⟨rfl, rfl, ⟨_, rfl, g1⟩, rec_nil⟩
theorem tb_in {x : Tb} {cs : List Value} : DtIn w S (tbDt x) cs ↔ ∃ u1 u2 u3, cs = [.string (txt x.nm), .string (txt x.own), .int .i64 x.ver, u1, u2, u3] ∧ IsRow w S 3 (x.cols.map coDt) u1 ∧ IsRow w S 12 (x.cons.map cnDt) u2 ∧ IsRow w S 2 (x.idx.map ixDt) u3 := by
  unfold tbDt cosDt cnsDt
  rw [in_rec, rec_cons, rec_cons, rec_cons, rec_cons, rec_cons, rec_cons, s_in, s_in, i_in, row_is, row_is, row_is]
  constructor
  · rintro ⟨hl, h0, h1, h2, ⟨u3, h3, g3⟩, ⟨u4, h4, g4⟩, ⟨u5, h5, g5⟩, _⟩
    match cs, hl with
    | [a0, a1, a2, a3, a4, a5], _ =>
      simp [span] at h0 h1 h2 h3 h4 h5
      subst h0 h1 h2 h3 h4 h5
      exact ⟨_, _, _, rfl, g3, g4, g5⟩
  · rintro ⟨u1, u2, u3, rfl, g3, g4, g5⟩
    exact ⟨rfl, rfl, rfl, rfl, ⟨_, rfl, g3⟩, ⟨_, rfl, g4⟩, ⟨_, rfl, g5⟩, rec_nil⟩
end
end Go.Proofs.YtcblddpapehdeaaDoor.Sm
namespace Go.Proofs.YtcblddpapehdeaaDoor.Ep
open Go.RowKit Go.Proofs.YtcblddpapehdeaaDoor.Mem Go.Proofs.YtcblddpapehdeaaDoor.Right
set_option linter.unusedVariables false
/-- What count answers. -/
def cntR : Option Nat → Array Value
  | none => #[.int .i64 0, .bool false]
  | some m => #[.int .i64 (m : Int), .bool true]
theorem cnt_mk (k o vk vn : Int) (vs nm : List UInt8) (kids : List Ex) (n : Nat) : cnt (.mk k o vk vn vs nm kids) n = if n = 0 ∨ 12 < kids.length ∨ 100 < nm.length ∨ 100 < vs.length then none else cntL kids (n - 1) := by rw [cnt]
theorem cntL_nil (n : Nat) : cntL [] n = some n := by rw [cntL]
theorem cntL_cons (x : Ex) (l : List Ex) (n : Nat) : cntL (x :: l) n = match cnt x n with | none => none | some m => cntL l m := by rw [cntL]; rfl
theorem cnt_le {e : Ex} {n m : Nat} (h : cnt e n = some m) : m ≤ n := by have := cnt_size h; omega
set_option maxHeartbeats 4000000 in
theorem count_any : ∀ (e : Ex) (cs : List Value) (n : Nat) (w : World), ExAt w w.heap.size e cs → n ≤ 1000 →
    Calls Tryd.prog 68 #[.agg cs.toArray, .int .i64 (n : Int)] w fun x w' => x = .returned (.tuple (cntR (cnt e n))) ∧ Below w.heap.size w w' := by
  refine Ex.byKids fun k o vk vn vs nm kids ih cs n w h hn => ?_
  obtain ⟨A, kn, c, rfl, hkn, hc1, hc2, hc3, hk⟩ := ex_open h
  rw [cnt_mk]
  obtain ⟨nb, hnb⟩ : ∃ nb, txt nm = nb := ⟨_, rfl⟩
  obtain ⟨vb, hvb⟩ : ∃ vb, txt vs = vb := ⟨_, rfl⟩
  have hns : nb.size = nm.length := by rw [← hnb]; rfl
  have hvs : vb.size = vs.length := by rw [← hvb]; rfl
  rw [hnb, hvb]
  have HB0 := Lib.hid (al (Below.refl w.heap.size w) (.cells #[.int .i64 k, .int .i64 o, .int .i64 vk, .int .i64 vn, .string vb, .string nb, .slice A kn c] 54))
  have HN := Lib.hid hkn
  have t1c : 12 < kids.length ↔ 12 < kn := by rw [hkn]
  clear hkn
  by_cases h0 : n = 0
  · subst h0
    rw [if_pos (.inl rfl)]
    go_enter Tryd.func68, Tryd.ntmps68
    go_wp2
    go_ret2
    exact ⟨rfl, HB0.out⟩
  have t0 : decide ((n : Int) ≤ 0) = false := decide_eq_false (by omega)
  by_cases h1 : 12 < kids.length
  · rw [if_pos (.inr (.inl h1))]
    have t1 : decide (12 < (kn : Int)) = true := decide_eq_true (by have := t1c.1 h1; omega)
    clear h1 t1c
    go_enter Tryd.func68, Tryd.ntmps68
    go_wp2
    go_ret2
    exact ⟨rfl, HB0.out⟩
  have t1 : decide (12 < (kn : Int)) = false := decide_eq_false (fun g => h1 (t1c.2 (by omega)))
  have h12 : kn ≤ 12 := by omega
  by_cases h2 : 100 < nm.length
  · rw [if_pos (.inr (.inr (.inl h2)))]
    have t2 : decide (100 < (nb.size : Int)) = true := decide_eq_true (by omega)
    go_enter Tryd.func68, Tryd.ntmps68
    go_wp2
    go_ret2
    exact ⟨rfl, HB0.out⟩
  have t2 : decide (100 < (nb.size : Int)) = false := decide_eq_false (by omega)
  by_cases h3 : 100 < vs.length
  · rw [if_pos (.inr (.inr (.inr h3)))]
    have t3 : decide (100 < (vb.size : Int)) = true := decide_eq_true (by omega)
    go_enter Tryd.func68, Tryd.ntmps68
    go_wp2
    go_ret2
    exact ⟨rfl, HB0.out⟩
  have t3 : decide (100 < (vb.size : Int)) = false := decide_eq_false (by omega)
  rw [if_neg (by omega)]
  have HK := Lib.hid hk
  obtain ⟨n1, hn1⟩ : ∃ n1, n - 1 = n1 := ⟨_, rfl⟩
  have hn1' : (n : Int) - 1 = (n1 : Int) := by omega
  rw [hn1]
  clear hk h hnb hvb hns hvs hn1 h1 h2 h3 hc1 hc2 hc3 t1c
  go_enter Tryd.func68, Tryd.ntmps68
  go_wp2
  go_loopw [6, 1] (fun i l wr => ∃ (j m : Nat), j ≤ kn ∧ m ≤ 1000 ∧ i = .int .i64 (j : Int) ∧ l = .int .i64 (m : Int) ∧ Hid (cntL kids n1 = cntL (kids.drop j) m) ∧ Hid (Below (w.alloc (.cells #[.int .i64 k, .int .i64 o, .int .i64 vk, .int .i64 vn, .string vb, .string nb, .slice A kn c] 54)).heap.size (w.alloc (.cells #[.int .i64 k, .int .i64 o, .int .i64 vk, .int .i64 vn, .string vb, .string nb, .slice A kn c] 54)) wr)) (fun i _ _ => kn + 1 - (intOf i).toNat)
  case atStart => exact ⟨0, n1, Nat.zero_le _, by omega, rfl, rfl, Lib.hid (by rw [List.drop_zero]), Lib.hid (Below.refl _ _)⟩
  case round =>
    obtain ⟨j, m, hj, hm, rfl, rfl, HL, HB⟩ := hrel
    have HBw := Lib.hid (HB0.out.trans (HB.out.mono HB0.out.size))
    have d6 := HB.out.cell (p := ⟨w.heap.size, 6, none⟩) (by simp)
    by_cases hlt : j < kn
    · obtain ⟨x, hx⟩ := kid_some (l := kids) (j := j) (by have := HN.out; omega)
      obtain ⟨k', o', vk', vn', vs', nm', ks', A', n', c', b, p, e, rfl, hb, hn', c0, c1, c2, c3, c4, c5, c6, hin⟩ := kid_at HK.out hx
      have HI : ∀ W, Below w.heap.size w W → Calls Tryd.prog 68 #[exV k' o' vk' vn' (txt vs') (txt nm') A' n' c', .int .i64 (m : Int)] W fun x' w' => x' = .returned (.tuple (cntR (cnt x m))) ∧ Below W.heap.size W w' := fun W hW => ih x (kid_mem hx) _ m W (ExAt.on hin hW) hm
      rw [drop_kid hx, cntL_cons] at HL
      have c0 := (HBw.out.cell hb).trans c0
      have c1 := (HBw.out.cell hb).trans c1
      have c2 := (HBw.out.cell hb).trans c2
      have c3 := (HBw.out.cell hb).trans c3
      have c4 := (HBw.out.cell hb).trans c4
      have c5 := (HBw.out.cell hb).trans c5
      have c6 := (HBw.out.cell hb).trans c6
      have tl : decide ((j : Int) < (kn : Int)) = true := decide_eq_true (by omega)
      clear hin hn' e
      cases hcx : cnt x m with
      | none =>
        rw [hcx] at HI HL
        simp only [cntR] at HI
        have HI := Lib.hid HI
        go_wp2_with (go_at_call 68; (with_reducible refine (HI.out _ HBw.out).mono ?_); rintro e' w2 ⟨rfl, hb2⟩; have HB2 := Lib.hid hb2; clear hb2)
        go_ret2
        exact ⟨by rw [HL.out]; rfl, Mem.on HBw.out HB2.out⟩
      | some m' =>
        rw [hcx] at HI HL
        simp only [cntR] at HI
        have hm' := cnt_le hcx
        have HI := Lib.hid HI
        go_wp2_with (go_at_call 68; (with_reducible refine (HI.out _ HBw.out).mono ?_); rintro e' w2 ⟨rfl, hb2⟩; have HB2 := Lib.hid hb2; clear hb2)
        go_roundw
        case rel => exact ⟨j + 1, m', by omega, by omega, by go_num, rfl, HL, Lib.hid (HB.out.trans (HB2.out.mono HB.out.size))⟩
        case measure => simp [intOf]; omega
    · have tl : decide ((j : Int) < (kn : Int)) = false := decide_eq_false (by omega)
      have hd : kids.drop j = [] := List.drop_eq_nil_of_le (by have := HN.out; omega)
      rw [hd, cntL_nil] at HL
      go_wp2
      go_ret2
      exact ⟨by rw [HL.out]; rfl, HBw.out⟩
theorem few_any (e : Ex) (cs : List Value) (n : Nat) (w : World) (h : ExAt w w.heap.size e cs) (hn : n ≤ 1000) :
    Calls Tryd.prog 29 #[.agg cs.toArray, .int .i64 (n : Int)] w fun x w' => x = .returned (.bool (cnt e n).isSome) ∧ Below w.heap.size w w' := by
  have HC : ∀ W, Below w.heap.size w W → Calls Tryd.prog 68 #[.agg cs.toArray, .int .i64 (n : Int)] W fun x w' => x = .returned (.tuple (cntR (cnt e n))) ∧ Below W.heap.size W w' := fun W hW => count_any e cs n W (h.on hW) hn
  obtain ⟨k, o, vk, vn, vs, nm, kids⟩ := e
  obtain ⟨A, kn, c, rfl, -⟩ := ex_open h
  have HB0 := Lib.hid (al (Below.refl w.heap.size w) (.cells #[.int .i64 k, .int .i64 o, .int .i64 vk, .int .i64 vn, .string (txt vs), .string (txt nm), .slice A kn c] 54))
  cases hc : cnt (.mk k o vk vn vs nm kids) n with
  | none =>
    rw [hc] at HC
    simp only [cntR] at HC
    have HC := Lib.hid HC
    clear h
    go_enter Tryd.func29, Tryd.ntmps29
    go_wp2_with (go_at_call 68; (with_reducible refine (HC.out _ HB0.out).mono ?_); rintro e' w2 ⟨rfl, hb2⟩; have HB2 := Lib.hid hb2; clear hb2)
    go_ret
    exact ⟨rfl, Mem.on HB0.out HB2.out⟩
  | some m =>
    rw [hc] at HC
    simp only [cntR] at HC
    have HC := Lib.hid HC
    clear h
    go_enter Tryd.func29, Tryd.ntmps29
    go_wp2_with (go_at_call 68; (with_reducible refine (HC.out _ HB0.out).mono ?_); rintro e' w2 ⟨rfl, hb2⟩; have HB2 := Lib.hid hb2; clear hb2)
    go_ret
    exact ⟨rfl, Mem.on HB0.out HB2.out⟩
end Go.Proofs.YtcblddpapehdeaaDoor.Ep
