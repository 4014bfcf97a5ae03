/- A tree: Put, Drop. -/
import Derived.Test.YtjlfacmmokfleaaBtUser
namespace Go.Proofs.Ytjlfacmmokfleaa.Bt
open Go.RowKit Go.Proofs.Ytjlfacmmokfleaa.Mem Go.Proofs.Ytjlfacmmokfleaa.Right
set_option linter.unusedVariables false

theorem call_put (args : Array Value) (w : World) : (callFunc 41 args).run Try.prog w = .ok (.enter 41 args) w := by
  have h := Try.func41
  simp [callFunc, h]
  rfl
theorem call_drop (args : Array Value) (w : World) : (callFunc 37 args).run Try.prog w = .ok (.enter 37 args) w := by
  have h := Try.func37
  simp [callFunc, h]
  rfl
def PutG (w : World) (n₀ tb : Nat) (X : List Nat) (L : List Pr) (k : Kn) (q : Bool) (e : Ending) (w' : World) : Prop :=
  e = .returned (.bool q) ∧ Kp n₀ X w w' ∧ (q = false → BT w' n₀ tb X L) ∧ (q = true → ∃ r, r.k = k ∧ Fresh w.heap.size r ∧ BT w' n₀ tb X (lo k L ++ r :: hi k L))
def DropG (w : World) (n₀ tb : Nat) (X : List Nat) (L : List Pr) (k : Kn) (q : Bool) (e : Ending) (w' : World) : Prop :=
  e = .returned (.bool q) ∧ Kp n₀ X w w' ∧ (q = false → BT w' n₀ tb X L) ∧ (q = true → BT w' n₀ tb X (lo k L ++ (hi k L).tail))
set_option maxHeartbeats 2000000 in
theorem put_t (w : World) (n₀ tb : Nat) (X : List Nat) (L : List Pr) (A : Option Addr) (n c : Nat) (l : List UInt8) (x : Int) (q : Bool) (h : BT w n₀ tb X L) (hk : Bs w A n c l) (hA : A = none → c = 0) (hn : n ≤ 1000) (hl : L.length ≤ 1000) (hq : (!has (l, x) L) = q) :
    Calls Try.prog 20 #[.pointer (some ⟨tb, 0, none⟩), .slice A n c, .int .i64 x] w (PutG w n₀ tb X L (l, x) q) := by
  have HN0 := Lib.hid h.lt
  have HBT := Lib.hid h
  obtain ⟨d, m, h1, h2, h3, h4, h5, h6⟩ := h
  obtain rfl := hk.2.1
  have hb1 := al (Below.refl w.heap.size w) (.cells #[.pointer (some ⟨tb, 0, none⟩)] tTp)
  have hb2 := al hb1 (.cells #[.slice A l.length c, .int .i64 x] tP)
  have HC1 := Lib.hid ((Cel.new w tTp #[.pointer (some ⟨tb, 0, none⟩)] rfl).alloc (.cells #[.slice A l.length c, .int .i64 x] tP))
  have HC2 := Lib.hid (Cel.new (w.alloc (.cells #[.pointer (some ⟨tb, 0, none⟩)] tTp)) tP #[.slice A l.length c, .int .i64 x] (B := w.heap.size + 1) (by simp))
  have H1 := Lib.hid (h1.below hb2)
  have H0 := Lib.hid h1
  have HK := Lib.hid (hk.below hb2)
  have HQ := Lib.hid (show (putD (l, x)).yes (prs (d + 1) m) = q by rw [h2]; exact hq)
  have H2 := Lib.hid h2
  have H36 := Lib.hid (show _ ∧ _ ∧ _ ∧ _ from ⟨h3, h4, h5, h6⟩)
  have HL := Lib.hid hl
  have HB2 := Lib.hid hb2
  clear h1 h2 h3 h4 h5 h6 hk hl hq hb1 hb2
  go_enter Try.func20, Try.ntmps20
  go_upto_region 2 with (fail)
  generalize ((w.alloc (.cells #[.pointer (some ⟨tb, 0, none⟩)] tTp)).alloc (.cells #[.slice A l.length c, .int .i64 x] tP)) = W at HC1 HC2 H1 HK HB2 ⊢
  have HDO := Lib.hid (put_do W tb (.pointer (some ⟨nb m, 0, none⟩)) ((prs (d + 1) m).length : Int) (w.heap.size + 1) w.heap.size ⟨A, c, l, x⟩ HC2.out HC1.out HK.out hA hn (by omega) (by rw [H2.out]; have := HL.out; omega))
  have HTC := Lib.hid (show Calls Try.prog 36 #[.pointer (some ⟨tb, 0, none⟩), .agg #[.slice A l.length c, .int .i64 x], .func (.func 41) #[] #[.pointer (some ⟨w.heap.size + 1, 0, none⟩), .pointer (some ⟨w.heap.size, 0, none⟩)]] W (TG W W tb d m (putD (l, x)) q) from
    tchange_any tb d m 41 (.pointer (some ⟨w.heap.size + 1, 0, none⟩)) (.pointer (some ⟨w.heap.size, 0, none⟩)) ⟨A, c, l, x⟩ (putD (l, x)) q W H1.out HDO.out HK.out HQ.out call_put)
  have c0 := HC1.out.at_ 0
  have p0 := HC2.out.at_ 0
  have p1 := HC2.out.at_ 1
  go_wp2_with (go_at_call 36; (with_reducible refine HTC.out.mono ?_); rintro e w2 ⟨rfl, h1, h2⟩; have HG1 := Lib.hid h1; have HG2 := Lib.hid h2; clear h1 h2)
  go_ret
  obtain ⟨h3, h4, h5, h6⟩ := H36.out
  cases q with
  | false =>
    have hb := Mem.on HB2.out (HG1.out rfl)
    exact ⟨rfl, Kp.of hb HN0.out, fun _ => HBT.out.below hb, fun e => by cases e⟩
  | true =>
    obtain ⟨r, hr, hf, ht⟩ := HG2.out rfl
    obtain ⟨b1, b2⟩ := TDone.bt H0.out (ht.base HB2.out) h3 h4 h5 h6
    rw [H2.out] at b1
    exact ⟨rfl, b2, (fun e => by cases e), fun _ => ⟨r, hr, fun b o e => Nat.le_trans HB2.out.size (hf b o e), b1⟩⟩
set_option maxHeartbeats 2000000 in
theorem drop_t (w : World) (n₀ tb : Nat) (X : List Nat) (L : List Pr) (A : Option Addr) (n c : Nat) (l : List UInt8) (x : Int) (q : Bool) (h : BT w n₀ tb X L) (hk : Bs w A n c l) (hA : A = none → c = 0) (hn : n ≤ 1000) (hl : L.length ≤ 1000) (hq : has (l, x) L = q) :
    Calls Try.prog 18 #[.pointer (some ⟨tb, 0, none⟩), .slice A n c, .int .i64 x] w (DropG w n₀ tb X L (l, x) q) := by
  have HN0 := Lib.hid h.lt
  have HBT := Lib.hid h
  obtain ⟨d, m, h1, h2, h3, h4, h5, h6⟩ := h
  obtain rfl := hk.2.1
  have hb1 := al (Below.refl w.heap.size w) (.cells #[.pointer (some ⟨tb, 0, none⟩)] tTp)
  have hb2 := al hb1 (.cells #[.slice A l.length c, .int .i64 x] tP)
  have HC1 := Lib.hid ((Cel.new w tTp #[.pointer (some ⟨tb, 0, none⟩)] rfl).alloc (.cells #[.slice A l.length c, .int .i64 x] tP))
  have HC2 := Lib.hid (Cel.new (w.alloc (.cells #[.pointer (some ⟨tb, 0, none⟩)] tTp)) tP #[.slice A l.length c, .int .i64 x] (B := w.heap.size + 1) (by simp))
  have H1 := Lib.hid (h1.below hb2)
  have H0 := Lib.hid h1
  have HK := Lib.hid (hk.below hb2)
  have HQ := Lib.hid (show (dropD (l, x)).yes (prs (d + 1) m) = q by rw [h2]; exact hq)
  have H2 := Lib.hid h2
  have H36 := Lib.hid (show _ ∧ _ ∧ _ ∧ _ from ⟨h3, h4, h5, h6⟩)
  have HL := Lib.hid hl
  have HB2 := Lib.hid hb2
  clear h1 h2 h3 h4 h5 h6 hk hl hq hb1 hb2
  go_enter Try.func18, Try.ntmps18
  go_upto_region 2 with (fail)
  generalize ((w.alloc (.cells #[.pointer (some ⟨tb, 0, none⟩)] tTp)).alloc (.cells #[.slice A l.length c, .int .i64 x] tP)) = W at HC1 HC2 H1 HK HB2 ⊢
  have HDO := Lib.hid (drop_do W tb (.pointer (some ⟨nb m, 0, none⟩)) ((prs (d + 1) m).length : Int) (w.heap.size + 1) w.heap.size ⟨A, c, l, x⟩ HC2.out HC1.out HK.out (by omega) (by rw [H2.out]; have := HL.out; omega))
  have HTC := Lib.hid (show Calls Try.prog 36 #[.pointer (some ⟨tb, 0, none⟩), .agg #[.slice A l.length c, .int .i64 x], .func (.func 37) #[] #[.pointer (some ⟨w.heap.size + 1, 0, none⟩), .pointer (some ⟨w.heap.size, 0, none⟩)]] W (TG W W tb d m (dropD (l, x)) q) from
    tchange_any tb d m 37 (.pointer (some ⟨w.heap.size + 1, 0, none⟩)) (.pointer (some ⟨w.heap.size, 0, none⟩)) ⟨A, c, l, x⟩ (dropD (l, x)) q W H1.out HDO.out HK.out HQ.out call_drop)
  have c0 := HC1.out.at_ 0
  have p0 := HC2.out.at_ 0
  have p1 := HC2.out.at_ 1
  go_wp2_with (go_at_call 36; (with_reducible refine HTC.out.mono ?_); rintro e w2 ⟨rfl, h1, h2⟩; have HG1 := Lib.hid h1; have HG2 := Lib.hid h2; clear h1 h2)
  go_ret
  obtain ⟨h3, h4, h5, h6⟩ := H36.out
  cases q with
  | false =>
    have hb := Mem.on HB2.out (HG1.out rfl)
    exact ⟨rfl, Kp.of hb HN0.out, fun _ => HBT.out.below hb, fun e => by cases e⟩
  | true =>
    obtain ⟨r, hr, hf, ht⟩ := HG2.out rfl
    obtain ⟨b1, b2⟩ := TDone.bt H0.out (ht.base HB2.out) h3 h4 h5 h6
    rw [H2.out] at b1
    exact ⟨rfl, b2, (fun e => by cases e), fun _ => b1⟩
end Go.Proofs.Ytjlfacmmokfleaa.Bt
