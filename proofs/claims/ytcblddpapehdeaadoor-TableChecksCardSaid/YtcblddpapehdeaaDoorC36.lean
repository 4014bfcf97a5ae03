/- Columns' places: the program's call (table.Places). -/
import Derived.Test.YtcblddpapehdeaaDoorC35
import Derived.Test.YtcblddpapehdeaaDoorC20
import Derived.Test.YtcblddpapehdeaaDoorC06
import Derived.Test.YtcblddpapehdeaaDoorC23
namespace Go.Proofs.YtcblddpapehdeaaDoor.Tk
open Go.RowKit Go.Proofs.YtcblddpapehdeaaDoor.Mem Go.Proofs.YtcblddpapehdeaaDoor.Ep Go.Proofs.YtcblddpapehdeaaDoor.Sm Go.Proofs.YtcblddpapehdeaaDoor.Right
set_option linter.unusedVariables false
attribute [local go_sem] Oper.semAt_some
abbrev tMi : TypeId := 79
theorem back_any (A : Option Addr) (n c : Nat) (w : World) : Calls Tryd.prog 49 #[.slice A n c] w fun e w' => e = .returned (.func (.func 91) #[] #[.pointer (some ⟨w.heap.size, 0, none⟩)]) ∧ w' = w.alloc (.cells #[.slice A n c] tCos) := by
  go_enter Tryd.func49, Tryd.ntmps49
  go_wp2
  go_ret
  exact ⟨rfl, rfl⟩
theorem back_each (n : Nat) (hn : 1 ≤ n) (Bn : Nat) (cols : List Co) (A : Option Addr) (m c : Nat) (w0 w : World) (hm : m ≤ 100000) (hc : LsIn w0 w0.heap.size A m c 3 (cols.map coDt)) (hBn : Boxed w Bn tCos (.slice A m c)) (hW : CK w0 w) :
    Each n Tryd.prog 91 #[.pointer (some ⟨Bn, 0, none⟩)] (encB cols) CK (GB m) (fun xs => xs = downs m m) w :=
  fun l J W hb hJ hY h0 => back_in n hn l Bn cols A m c w0 hm hc J hJ hY W ((hb.block _ hBn.lt).trans hBn) (hW.trans (CK.of hb)) h0
/-- Between two rounds. -/
def PlI (cols : List Co) (w V : World) (g : Nat) (pre : List Nat) (W : World) : Prop := W.ownsMap Tryd.prog tS (plainElem Tryd.prog tI) g pre.length (PD cols pre) ∧ CK V W ∧ Below w.heap.size w W
theorem ownFrom_ck {α : Type} (B : Nat) (V : World) : OwnFrom B (fun (_ : α) W => CK V W) := fun s X Y row hs hg hr => hs.trans ⟨hg.size, fun j o g hc => (hg.block j (blk_lt g) (fun e => by
  obtain ⟨_, o2, h2, h3⟩ := hr j e.symm
  rw [g] at h2; injection h2 with h2; subst h2; rw [hc] at h3; cases h3)).trans g⟩
theorem pli_stays (cols : List Co) (w V : World) (g : Nat) (hg : g < V.heap.size) (hw : w.heap.size ≤ V.heap.size) : Stays V.heap.size (PlI cols w V g) :=
  ⟨OwnFrom.and (fun s X Y row hs hgr hr => hs.kept hgr (fun e => by have := (hr _ e.symm).1; omega)) (OwnFrom.and (ownFrom_ck _ _) (ownFrom_below (Nat.le_refl _) hw)),
   fun pre X Y ⟨h1, h2, h3⟩ hb => ⟨h1.kept (grown_below (r := none) hb) (by simp), h2.trans (CK.of hb), h3.trans (hb.mono h3.size)⟩⟩
theorem cel_own {W W' : World} {row : Option Nat} {B : Nat} {t : TypeId} {cs : Array Value} (h : Cel W B t cs) (hg : W.grownBy W' row) (hr : ∀ r, row = some r → ∃ o : Obj, W.heap[r]? = some o ∧ o.isCells = false) : Cel W' B t cs := (grownBy_keeps_cells hg hr h rfl).trans h
theorem lit_int {a b : Int} (h : (DataW.lit (Lit.int .i64 a) : DataW Unit) = .lit (.int .i64 b)) : a = b := by
  injection h with h
  injection h
theorem mapi_blk {R : Value → Option (DataW Unit × List MemPlace)} {W : World} {g n : Nat} {D : DataW Unit} (h : W.ownsMap Tryd.prog tS R g n D) : ∃ es c, W.heap[g]? = some (.map es c) := by
  obtain ⟨es, c, hb, _⟩ := h
  exact ⟨es, c, hb⟩
theorem gb_last {n : Nat} {pre : List Nat} {i : Nat} {W : World} (h : GB n (pre ++ [i]) W) : i = n - 1 - pre.length ∧ pre.length < n := by
  obtain ⟨h1, h2⟩ := h
  rw [List.length_append] at h1 h2
  have h3 : downs n (pre.length + [i].length) = downs n pre.length ++ [n - 1 - pre.length] := rfl
  rw [h3] at h1
  have := List.append_inj_right h1 (by rw [downs_len])
  simp at this h2
  exact ⟨this, by omega⟩
theorem wf_small {i : Nat} (h : i ≤ 100000) : (Lit.int .i64 (i : Int)).wf = true := by
  have h1 : IntKind.i64.min = -9223372036854775808 := by decide
  have h2 : IntKind.i64.max = 9223372036854775807 := by decide
  simp [Lit.wf, h1, h2]
  omega
/-- A round's slots. -/
def plA (x : Tb) (f : Fb) (A : Option Addr) (n c : Nat) (w V : World) (i : Nat) (co : Co) (Bx : Nat) : Act :=
  { tmps := #[.agg #[.string (txt x.nm), .string (txt x.own), .int .i64 x.ver, .slice f.A3 f.n3 f.a3, .slice f.A4 f.n4 f.a4, .slice f.A5 f.n5 f.a5], .slice A n c, .pointer (some ⟨w.heap.size, 0, none⟩), undef, .slice none 0 0, .int .i64 0, .pointer (some ⟨w.heap.size + 1 + 1, 0, none⟩), .int .i64 (i : Int), .pointer (some ⟨Bx, 0, none⟩), undef, undef, undef, undef, undef, .map (some (w.heap.size + 1)), .pointer (some ⟨w.heap.size, 3, none⟩), .slice f.A3 f.n3 f.a3, .func (.func 91) #[] #[.pointer (some ⟨V.heap.size, 0, none⟩)], .int .i64 (i : Int), coV co, undef, undef, undef, undef, undef, undef, undef, undef, undef, undef, undef, undef, undef, undef, undef, undef, undef, undef, undef, undef, undef, undef, undef, undef], defers := [] }
/-- What a round begins with. -/
def PlX (x : Tb) (f : Fb) (A : Option Addr) (n c : Nat) (w V U : World) (pre : List Nat) (i : Nat) (a' : Act) (W : World) : Prop := PlI x.cols w U (w.heap.size + 1) pre W ∧ (∃ Bx, Cel W Bx 49 #[.string (txt (x.cols[i]?.getD co0).nm), .int .i64 (x.cols[i]?.getD co0).ty, .bool (x.cols[i]?.getD co0).nn] ∧ a' = plA x f A n c w V i (x.cols[i]?.getD co0) Bx) ∧ GB f.n3 (pre ++ [i]) W
set_option maxRecDepth 100000 in
set_option maxHeartbeats 4000000 in
theorem places_any (x : Tb) (f : Fb) (L : List Bs) (A : Option Addr) (n c : Nat) (w : World) (hx : FbIn w w.heap.size f x) (h3 : f.n3 ≤ 100000) (hz : ∀ y ∈ x.cols, y.nm.length ≤ 1000000) (hzl : ∀ s ∈ L, s.length ≤ 1000000) (hn : L.length = n) (hN : n ≤ 100000) (hL : Row w w.heap.size A (L.map str)) : Calls Tryd.prog 14 #[.agg #[.string (txt x.nm), .string (txt x.own), .int .i64 x.ver, .slice f.A3 f.n3 f.a3, .slice f.A4 f.n4 f.a4, .slice f.A5 f.n5 f.a5], .slice A n c] w (PlD x.cols L w) := by
  obtain ⟨V, hV⟩ : ∃ W1, (((w.alloc (.cells #[.string (txt x.nm), .string (txt x.own), .int .i64 x.ver, .slice f.A3 f.n3 f.a3, .slice f.A4 f.n4 f.a4, .slice f.A5 f.n5 f.a5] tTb)).alloc (.map #[] 0)).alloc (.cells #[.map (some (w.heap.size + 1))] tMi)) = W1 := ⟨_, rfl⟩
  have hb : Below w.heap.size w V := by rw [← hV]; exact al (al (al (Below.refl _ _) _) _) _
  have hbx : Cel V w.heap.size tTb #[.string (txt x.nm), .string (txt x.own), .int .i64 x.ver, .slice f.A3 f.n3 f.a3, .slice f.A4 f.n4 f.a4, .slice f.A5 f.n5 f.a5] := by rw [← hV]; exact ((Cel.new _ _ _ rfl).alloc _).alloc _
  have hmx : Cel V (w.heap.size + 1 + 1) tMi #[.map (some (w.heap.size + 1))] := by rw [← hV]; exact Cel.new _ _ _ (by simp)
  have hmo : V.ownsMap Tryd.prog tS (plainElem (H := Unit) Tryd.prog tI) (w.heap.size + 1) 0 (PD x.cols []) := by
    rw [← hV]
    refine World.ownsMap.alloc ?_ _
    have := World.ownsMap_made (R := plainElem (H := Unit) Tryd.prog tI) (w.alloc (.cells #[.string (txt x.nm), .string (txt x.own), .int .i64 x.ver, .slice f.A3 f.n3 f.a3, .slice f.A4 f.n4 f.a4, .slice f.A5 f.n5 f.a5] tTb)) Tryd.prog tS
    rw [World.size_alloc] at this
    exact this
  have y0 : V.cell? ⟨w.heap.size, 0, none⟩ = some (.string (txt x.nm)) := hbx.at_ 0
  have y1 : V.cell? ⟨w.heap.size, 1, none⟩ = some (.string (txt x.own)) := hbx.at_ 1
  have y2 : V.cell? ⟨w.heap.size, 2, none⟩ = some (.int .i64 x.ver) := hbx.at_ 2
  have y3 : V.cell? ⟨w.heap.size, 3, none⟩ = some (.slice f.A3 f.n3 f.a3) := hbx.at_ 3
  have y4 : V.cell? ⟨w.heap.size, 4, none⟩ = some (.slice f.A4 f.n4 f.a4) := hbx.at_ 4
  have y5 : V.cell? ⟨w.heap.size, 5, none⟩ = some (.slice f.A5 f.n5 f.a5) := hbx.at_ 5
  obtain ⟨U, hU⟩ : ∃ U, V.alloc (.cells #[.slice f.A3 f.n3 f.a3] tCos) = U := ⟨_, rfl⟩
  have hbu : Below V.heap.size V U := by rw [← hU]; exact al (Below.refl _ _) _
  have HB2 := Lib.hid (Mem.on hb hbu)
  have HBU := Lib.hid (show Boxed U V.heap.size tCos (.slice f.A3 f.n3 f.a3) from by rw [← hU]; exact Boxed.new _ _ _)
  have HMO2 := Lib.hid (show U.ownsMap Tryd.prog tS (plainElem (H := Unit) Tryd.prog tI) (w.heap.size + 1) 0 (PD x.cols []) from hmo.kept (grown_below (r := none) hbu) (by simp))
  have HMX2 := Lib.hid (hmx.below hbu)
  have HSU := Lib.hid (show w.heap.size + 3 ≤ U.heap.size from by have h1 := hmx.lt; have h2 := hbu.size; omega)
  have HB := Lib.hid hb
  have HMX := Lib.hid hmx
  have HMO := Lib.hid hmo
  have HX := Lib.hid hx
  have HZ := Lib.hid hz
  have HZL := Lib.hid hzl
  have HN := Lib.hid hn
  have H := Lib.hid hL
  have hmm := @run_makeMap Tryd.prog
  clear hb hbx hmx hmo hx hz hzl hn hL hbu
  refine (callsIn_wide (n := 5)).1 ?_
  refine callsIn_of_wp_marks Tryd.func14 rfl trivial ?_ rfl
  simp only [Tryd.ntmps14, List.size_toArray, List.length_cons, List.length_nil, Nat.reduceAdd, Nat.reduceSub, Array.replicate_succ, Array.replicate_zero, List.push_toArray, List.append_toArray, List.nil_append, List.cons_append]
  gi_wp2_with (refine ⟨trivial, ?_⟩; gi_at_call 49; refine (callsIn_wide.2 (back_any _ _ _ _)).mono ?_; rintro e w' ⟨rfl, rfl⟩)
  refine wp_each (by omega) rfl (enters_of Tryd.func91 (by kernel_rfl) rfl) (back_each 4 (by omega) V.heap.size x.cols f.A3 f.n3 f.a3 w U h3 HX.out.cols HBU.out (CK.of HB2.out)) (fun x => rfl) (fun h k => h.trans k) (fun W l o o' _ h hc => CK.put W l o o' h hc)
    (PlI x.cols w U (w.heap.size + 1)) (pli_stays _ _ _ _ (by have := HSU.out; omega) HB2.out.size) (ownFrom_pure _ _) ⟨HMO2.out, CK.refl _, HB2.out⟩
    (PlX x f A n c w V U)
    (fun pre i => OwnFrom.and (fun (s : Act) X Y row hs hg hr => (pli_stays x.cols w U (w.heap.size + 1) (by have := HSU.out; omega) HB2.out.size).1 pre X Y row hs hg hr) (OwnFrom.and (Own.from (fun s X Y row ⟨Bx, hs, e⟩ hg hr => ⟨Bx, cel_own hs hg hr, e⟩) _) (ownFrom_pure _ _))) ?assign ?body ?done
  case assign =>
    intro l pre i W hI hG
    obtain ⟨k, ty, nn, hco⟩ : ∃ k ty nn, x.cols[i]?.getD co0 = ⟨k, ty, nn⟩ := ⟨_, _, _, rfl⟩
    simp only [encB, coV, hco]
    gi_wp2
    refine ⟨(KeepsOthers.alloc _ _).from _, CK.of (al (Below.refl _ _) _), ⟨(pli_stays x.cols w U (w.heap.size + 1) (by have := HSU.out; omega) HB2.out.size).2 _ _ _ hI (al (Below.refl _ _) _), ⟨W.heap.size, ?_, ?_⟩, hG⟩⟩
    · rw [hco]; exact Cel.new _ _ _ rfl
    · unfold plA coV; rw [hco]
  case body =>
    rintro l pre i a' W ⟨hI, ⟨Bx, hBx, rfl⟩, hG⟩
    obtain ⟨hm, hck, hbw⟩ := hI
    have c0 := (hck.cel (show U.heap[w.heap.size + 1 + 1]? = _ from HMX2.out) rfl)
    have c1 := cell_of_row _ _ 0 _ _ _ c0
    have c2 : W.cell? ⟨w.heap.size + 1 + 1, 0, none⟩ = some (.map (some (w.heap.size + 1))) := c1
    have d0 := hBx.at_ 0
    have hi1 : i ≤ 100000 ∧ i < f.n3 ∧ pre.length < 100000 := by obtain ⟨g1, g2⟩ := gb_last hG; omega
    have hkey : keyOf Tryd.prog tS (.string (txt (x.cols[i]?.getD co0).nm)) = some (.string (x.cols[i]?.getD co0).nm) := by
      obtain ⟨co, hco⟩ := some_at HX.out.n3.symm (show i < f.n3 from hi1.2.1)
      have h1 := HZ.out co (List.mem_of_getElem? hco)
      rw [hco]
      exact txt_key _ (Nat.le_trans h1 (by unfold maxLen; omega))
    have hpl : pre.length < maxLen := by unfold maxLen; omega
    clear c0 c1
    unfold plA
    gi_wp2_with (gi_at_mapUpdate; refine wpListIn_mapUpdate_own _ rfl _ _ _ tMi rfl tS tI lawS Tryd.underlying79 _ (w.heap.size + 1) pre.length _ rfl hm hpl _ _ _ rfl rfl hkey _ [] (plainElem_int (H := Unit) Tryd.underlying3 (wf_small (by omega))) ?_; intro w1 hown1 hgrow1)
    refine ⟨KeepsFrom.of_grownBy hgrow1 (fun j e => by cases e; have := HSU.out; omega), CK.grown hgrow1 (fun o ho => ?_), ⟨?_, hck.trans (CK.grown hgrow1 (fun o ho => ?_)), hbw.grown hgrow1 hbw.size (fun k e => by cases e; omega)⟩⟩
    · obtain ⟨es, cl, hes⟩ := mapi_blk hm
      rw [hes] at ho; cases ho; rfl
    · rw [List.length_append, pd_on]
      exact hown1
    · obtain ⟨es, cl, hes⟩ := mapi_blk hm
      rw [hes] at ho; cases ho; rfl
  case done =>
    rintro D xs W hD rfl hG ⟨hm, hck, hbw⟩ hK
    simp only [Exit.inBlock, Exit.then]
    rename_i K hKa
    refine hKa _ _ ?_
    refine wpIn_wide.2 ?_
    have HK := Lib.hid hK
    have HM := Lib.hid hm
    have HCK := Lib.hid hck
    have HBW := Lib.hid hbw
    have HDU := Lib.hid hD
    have hz0 := Tryd.zeroValue3 (w := W)
    clear hK hm hck hbw hD hG hKa
    go_wp2
    go_loopw [26, 9] (fun i u wr => ∃ (j : Nat) (v : Value), j ≤ n ∧ i = .int .i64 (j : Int) ∧ v = u ∧ Hid (wr.ownsRow W.heap.size tI 1 v j ((plN x.cols (L.take j)).map (Value.int .i64))) ∧ Hid (plOk x.cols (L.take j)) ∧ Hid (Below W.heap.size W wr)) (fun i _ _ => n + 1 - (intOf i).toNat)
    case atStart => exact ⟨0, _, Nat.zero_le _, rfl, rfl, Lib.hid ⟨rfl, .inl ⟨rfl, rfl⟩⟩, Lib.hid (fun v hv => by simp at hv), Lib.hid (Below.refl _ _)⟩
    case round =>
      obtain ⟨j, v, hj, rfl, rfl, HO, HT, HBL⟩ := hrel
      have c2 : wr.cell? ⟨w.heap.size + 1 + 1, 0, none⟩ = some (.map (some (w.heap.size + 1))) := by
        have h1 := HCK.out.cel (show U.heap[w.heap.size + 1 + 1]? = _ from HMX2.out) rfl
        exact (Cel.below (show Cel W _ _ _ from h1) HBL.out).at_ 0
      have HKD := Lib.hid (show wr.heap[D]? = some (.deferred (some [])) from (HBL.out.block D (blk_lt HK.out)).trans HK.out)
      by_cases hlt : j < n
      · --<
        have tl : decide ((j : Int) < (n : Int)) = true := decide_eq_true (by omega)
        have tl2 : decide (j < n) = true := decide_eq_true hlt
        obtain ⟨s, hs⟩ := some_at HN.out hlt
        obtain ⟨b, o, rfl, hb, g0⟩ := H.out j (str s) (by rw [List.getElem?_map, hs]; rfl)
        unfold str at g0
        have hbW : b < W.heap.size := Nat.lt_of_lt_of_le hb HBW.out.size
        have c9 : wr.cell? ⟨b, o + j, none⟩ = some (.string (txt s)) := (HBL.out.cell (p := ⟨b, o + j, none⟩) hbW).trans ((HBW.out.cell (p := ⟨b, o + j, none⟩) hb).trans g0)
        have HKY := Lib.hid (txt_key s (Nat.le_trans (HZL.out s (List.mem_of_getElem? hs)) (by unfold maxLen; omega)))
        have HMW := Lib.hid (HM.out.kept (grown_below (r := none) HBL.out) (by simp))
        have HS := Lib.hid hs
        obtain ⟨q, hq⟩ : ∃ q, colI x.cols s = q := ⟨_, rfl⟩
        have HQ := Lib.hid hq
        rcases pd_all x.cols f.n3 HX.out.n3.symm s with ⟨hneg, hno⟩ | ⟨hpos, hyes, hat⟩
        · have HNO := Lib.hid hno
          have HF := Lib.hid (pl_no (cols := x.cols) (l := L) fun g => by have h1 := g s (List.mem_of_getElem? HS.out); omega)
          clear hs hq hb g0 hneg hno hbW
          go_wp2_with (at_lookup; refine wpList_lookup_own_ok_int _ rfl _ _ tMi rfl tS tI .i64 lawS Tryd.underlying79 Tryd.underlying3 (Tryd.zeroValue3 _) (w.heap.size + 1) _ _ rfl HMW.out _ _ rfl HKY.out ?_; intro c3 hc3 hw3; rw [HNO.out]; clear hc3 hw3)
          refine ⟨by simp, .inl ⟨_, _, rfl, run_takeDeferred HKD.out, ?_⟩⟩
          refine ⟨_, results_tmp2 rfl _ _ _, none, 0, 0, by rw [HF.out.2]; rfl, by rw [HF.out.1]; rfl, by rw [HF.out.1]; exact fun k u h => by simp at h, ?_⟩
          exact fin_below (HBW.out.trans (HBL.out.mono HBW.out.size)) (by have := HDU.out; have := HSU.out; omega) HKD.out rfl rfl
        · have HYES := Lib.hid hyes
          have HT2 := Lib.hid (show plOk x.cols (L.take (j + 1)) from take_all_on (C := fun s => 0 ≤ colI x.cols s) HS.out HT.out (by omega))
          have HP := Lib.hid (show (plN x.cols (L.take (j + 1))).map (Value.int .i64) = (plN x.cols (L.take j)).map (Value.int .i64) ++ [Value.int .i64 q] from by unfold plN; rw [List.take_add_one, HS.out, List.map_append, List.map_append, ← HQ.out]; rfl)
          have HAT := Lib.hid (hat (.lit (.int .i64 0)))
          rw [hq] at HAT
          have HOW := Lib.hid HO.out
          clear hs hq hb g0 hpos hyes hbW hat
          go_wp2_with (first | (at_lookup; refine wpList_lookup_own_ok_int _ rfl _ _ tMi rfl tS tI .i64 lawS Tryd.underlying79 Tryd.underlying3 (Tryd.zeroValue3 _) (w.heap.size + 1) _ _ rfl HMW.out _ _ rfl HKY.out ?_; intro c3 hc3 hw3; rw [HYES.out]; obtain rfl : q = c3 := (lit_int (hc3.symm.trans HAT.out)).symm; clear hc3 hw3) | (at_builtin; refine wp_one (x := .int .i64 q) elemI W.heap.size (.tmp 38) (.tmp 40) rfl rfl rfl HO.out rfl rfl (by omega) (by omega) HBL.out.size ?_; intro v4 w4 g1 g2 g3; obtain ⟨A4, a4, rfl⟩ := own_slice g1; have HR := Lib.hid g1; have HB4 := Lib.hid (own_low HO.out HBL.out g2); clear g1 g2 g3))
          go_roundw
          case rel => exact ⟨j + 1, _, by omega, by go_num, rfl, by rw [HP.out]; exact HR, HT2, HB4⟩
          case measure => simp [intOf]; omega
        -->
      · have tl : decide ((j : Int) < (n : Int)) = false := decide_eq_false (by omega)
        have tl2 : decide (j < n) = false := decide_eq_false hlt
        obtain rfl : j = n := by omega
        have hk := HO.out
        have ht := HT.out
        rw [List.take_of_length_le (by have := HN.out; omega)] at hk ht
        have HF := Lib.hid (pl_yes ht)
        obtain ⟨A4, c4, rfl⟩ := own_slice hk
        have HKK := Lib.hid hk
        clear hk ht
        go_wp2
        refine ⟨by simp, .inl ⟨_, _, rfl, run_takeDeferred HKD.out, ?_⟩⟩
        refine ⟨_, results_tmp2 rfl _ _ _, A4, j, c4, by rw [HF.out.2]; rfl, by rw [HF.out.1]; unfold plN; rw [List.length_map]; exact HN.out.symm, by rw [HF.out.1]; exact Row.own (ownsRow_putObj HKK.out _ HKD.out rfl), ?_⟩
        exact fin_below (HBW.out.trans (HBL.out.mono HBW.out.size)) (by have := HDU.out; have := HSU.out; omega) HKD.out rfl rfl
end Go.Proofs.YtcblddpapehdeaaDoor.Tk
