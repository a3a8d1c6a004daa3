import Derived.Test.YtfaehioeepolhaaGreatJOpenSender0
import Derived.Laws.BytesString
import Derived.Test.YtfaehioeepolhaaGreatJOpenSender25
import Derived.Handy
import Derived.Deep.RegionHeld
namespace Go.Proofs.YtfaehioeepolhaaGreat
open Go.RowKit
set_option maxHeartbeats 400000 in
theorem l1width_any (n : Int) (w : World) :
    Calls Tryz.prog 145 #[.int .i64 n] w fun e w' => e = .returned (.bool (decide (n = 1 ∨ n = 2 ∨ n = 4 ∨ n = 8))) ∧ w' = w := by
  by_cases h1 : n = 1
  · subst h1
    go_enter Tryz.func145, Tryz.ntmps145
    go_wp2
    go_ret
    exact ⟨rfl, rfl⟩
  by_cases h2 : n = 2
  · subst h2
    go_enter Tryz.func145, Tryz.ntmps145
    go_wp2
    go_ret
    exact ⟨rfl, rfl⟩
  by_cases h4 : n = 4
  · subst h4
    go_enter Tryz.func145, Tryz.ntmps145
    go_wp2
    go_ret
    exact ⟨rfl, rfl⟩
  by_cases h8 : n = 8
  · subst h8
    go_enter Tryz.func145, Tryz.ntmps145
    go_wp2
    go_ret
    exact ⟨rfl, rfl⟩
  have e1 : (n == 1) = false := by simpa using h1
  have e2 : (n == 2) = false := by simpa using h2
  have e4 : (n == 4) = false := by simpa using h4
  have e8 : (n == 8) = false := by simpa using h8
  have HF : Hid (decide (n = 1 ∨ n = 2 ∨ n = 4 ∨ n = 8) = false) := hid (by simp [h1, h2, h4, h8])
  rw [HF.out]
  clear h1 h2 h4 h8 HF
  go_enter Tryz.func145, Tryz.ntmps145
  go_wp2
  go_ret
  exact ⟨rfl, rfl⟩
end Go.Proofs.YtfaehioeepolhaaGreat
namespace Go.Proofs.YtfaehioeepolhaaGreat
open Go.RowKit
def bstr (xs : List Nat) : ByteArray := ⟨(xs.map fun x => UInt8.ofNat x).toArray⟩
theorem bstr_foldl (ns : List Nat) : ∀ s : ByteArray, ns.foldl (fun (r : ByteArray) (n : Nat) => r.push (UInt8.ofNat n)) s = ⟨s.data ++ (ns.map fun x => UInt8.ofNat x).toArray⟩ := by
  induction ns with
  | nil => intro s; simp
  | cons n ns ih =>
    intro s
    rw [List.foldl_cons, ih]
    simp [ByteArray.push]
theorem bstr_inj {xs ys : List Nat} (hx : ∀ x ∈ xs, x < 256) (hy : ∀ x ∈ ys, x < 256) (h : bstr xs = bstr ys) : xs = ys := by
  unfold bstr at h
  simp only [ByteArray.mk.injEq] at h
  have h' := congrArg Array.toList h
  simp only at h'
  clear h
  induction xs generalizing ys with
  | nil => cases ys <;> simp_all
  | cons x xs ih =>
    cases ys with
    | nil => simp at h'
    | cons y ys =>
      simp only [List.map_cons, List.cons.injEq] at h'
      have h1 : x = y := by
        have e := congrArg UInt8.toNat h'.1
        have a := hx x (by simp)
        have b := hy y (by simp)
        simp only [UInt8.toNat_ofNat'] at e
        omega
      rw [h1, ih (fun z hz => hx z (by simp [hz])) (fun z hz => hy z (by simp [hz])) h'.2]
theorem bstr_beq {xs ys : List Nat} (hx : ∀ x ∈ xs, x < 256) (hy : ∀ x ∈ ys, x < 256) : decide (xs = ys) = ((bstr xs).toList == (bstr ys).toList) := by
  rw [ByteArray.toList_eq, ByteArray.toList_eq]
  by_cases h : xs = ys
  · subst h; simp
  · have h1 : (bstr xs).data.toList ≠ (bstr ys).data.toList := fun e => h (bstr_inj hx hy (by
      have := Array.toList_inj.1 e
      cases hb : bstr xs; cases hc : bstr ys; simp_all))
    rw [decide_eq_false h]
    exact (beq_eq_false_iff_ne.2 h1).symm
theorem run_bstr {P : Program} {w : World} {src dst e : TypeId} (hs : P.underlying src = some (.slice e)) (he : P.underlying e = some (.int .u8)) (hd : P.underlying dst = some .string)
    {a : Option Addr} {xs : List Nat} {c : Nat} (h : Rd w a (byt xs)) : (convert src dst (.slice a xs.length c)).run P w = .ok (.string (bstr xs)) w := by
  rw [run_convert_bytes_string w src dst e a xs.length c hs he hd]
  cases a with
  | none =>
    obtain rfl : xs = [] := by
      rcases h with h | ⟨b, off, h, _⟩
      · simpa [byt] using h
      · cases h
    simp [Conv.bytesToString, Sem.run_pure, bstr]
    rfl
  | some a =>
    have hl : (loadCells a xs.length).run P w = .ok ((xs.map (fun x : Nat => (x : Int))).map (Value.int .u8)).toArray w := by
      have := run_loadCells_list (P := P) (w := w) a (byt xs) (by
        intro j v hj
        rcases h with h | ⟨b, off, h1, hc⟩
        · rw [h] at hj; simp at hj
        · cases h1
          obtain ⟨h2, h3⟩ := List.getElem?_eq_some_iff.1 hj
          have h4 := hc j h2
          have hadd : (⟨b, off, none⟩ : Addr).add j = ⟨b, off + j, none⟩ := by unfold Addr.add; split <;> simp_all
          rw [hadd, h4, h3])
      simpa [byt, List.map_map, Function.comp_def] using this
    rw [run_bytesToString w a _ _ _ hl, List.foldl_map]
    simp only [Int.toNat_natCast]
    rw [bstr_foldl]
    simp [bstr]
end Go.Proofs.YtfaehioeepolhaaGreat
namespace Go.Proofs.YtfaehioeepolhaaGreat
open Go.RowKit
set_option maxHeartbeats 400000 in
theorem l1same_any (a1 a2 : Option Addr) (c1 c2 : Nat) (xs ys : List Nat) (w : World) (h1 : Rd w a1 (byt xs)) (h2 : Rd w a2 (byt ys)) (hx : ∀ x ∈ xs, x < 256) (hy : ∀ x ∈ ys, x < 256) :
    Calls Tryz.prog 101 #[.slice a1 xs.length c1, .slice a2 ys.length c2] w fun e w' => e = .returned (.bool (decide (xs = ys))) ∧ w' = w := by
  have e1 := run_bstr (P := Tryz.prog) (c := c1) Tryz.underlying23 Tryz.underlying5 Tryz.underlying9 h1
  have e2 := run_bstr (P := Tryz.prog) (c := c2) Tryz.underlying23 Tryz.underlying5 Tryz.underlying9 h2
  have HD : Hid (decide (xs = ys) = ((bstr xs).toList == (bstr ys).toList)) := hid (bstr_beq hx hy)
  rw [HD.out]
  clear h1 h2
  generalize bstr xs = s at *
  generalize bstr ys = t at *
  go_enter Tryz.func101, Tryz.ntmps101
  go_wp2
  go_ret
  exact ⟨rfl, rfl⟩
end Go.Proofs.YtfaehioeepolhaaGreat
namespace Go.Proofs.YtfaehioeepolhaaGreat
open Go.RowKit
set_option maxHeartbeats 2000000 in
theorem l2nameOK_any (a : Option Addr) (cap : Nat) (xs : List Nat) (w : World) (hr : Rd w a (byt xs)) (hb : ∀ x ∈ xs, x < 256) :
    Calls Tryz.prog 144 #[.slice a xs.length cap] w fun e w' => e = .returned (.bool (nameOK xs)) ∧ w' = w := by
  by_cases h1 : xs.length < 1
  · have HD : Hid (nameOK xs = false) := hid (by simp [nameOK]; omega)
    rw [HD.out]
    go_enter Tryz.func144, Tryz.ntmps144
    go_wp2
    go_ret
    exact ⟨rfl, rfl⟩
  by_cases h2 : 20 < xs.length
  · have HD : Hid (nameOK xs = false) := hid (by simp [nameOK]; omega)
    rw [HD.out]
    go_enter Tryz.func144, Tryz.ntmps144
    go_wp2
    go_ret
    exact ⟨rfl, rfl⟩
  have HD : Hid (nameOK xs = xs.all nameB) := hid (by
    have e1 : decide (1 ≤ xs.length) = true := decide_eq_true (by omega)
    have e2 : decide (xs.length ≤ 20) = true := decide_eq_true (by omega)
    unfold nameOK; rw [e1, e2]; rfl)
  rw [HD.out]
  have HC : Hid (∀ i, (h : i < xs.length) → ∃ b off, a = some ⟨b, off, none⟩ ∧ w.cell? ⟨b, off + i, none⟩ = some (.int .u8 ((xs[i] : Nat) : Int))) := hid (by
    rcases hr with h | ⟨b, off, rfl, hc⟩
    · have : xs = [] := by simpa [byt] using h
      subst this; simp at h1
    · exact fun i h => ⟨b, off, rfl, rdByte hc i h⟩)
  clear hr
  go_enter Tryz.func144, Tryz.ntmps144
  go_wp2
  go_loop [3, 4] (fun i c => ∃ k : Nat, k ≤ xs.length ∧ i = .int .i64 k ∧ ∀ j, (h : j < xs.length) → j < k → nameB xs[j] = true) (fun i _ => xs.length - (intOf i).toNat)
  case atStart => exact ⟨0, Nat.zero_le _, rfl, fun j _ h => by omega⟩
  case round =>
    obtain ⟨k, hk, rfl, hall⟩ := hrel
    have HA := hid hall
    clear hall
    by_cases hlt : k < xs.length
    · obtain ⟨b, off, rfl, hcell⟩ := HC.out k hlt
      have hx := hb _ (List.getElem_mem hlt)
      have hki : (k : Int) < (xs.length : Int) := by omega
      have HBAD : Hid (nameB xs[k] = false → xs.all nameB = false) := hid (fun h => all_bad hlt h)
      have HGOOD : Hid (nameB xs[k] = true → ∀ j, (h : j < xs.length) → j < k + 1 → nameB xs[j] = true) := hid (fun h j hj hjk => by
        by_cases e : j = k
        · subst e; exact h
        · exact HA.out j hj (by omega))
      generalize hc : xs[k] = c at *
      rcases nameB_split c with ⟨hs, hn⟩ | ⟨hs, hn⟩
      · have HX := hid (HBAD.out hn)
        clear hn
        rcases hs with h | h | h | h | h <;> (go_wp2 <;> first | (go_ret; exact ⟨by rw [HX.out]; rfl, rfl⟩) | (exfalso; omega) | (exfalso; simp_all; omega))
      · have HX := hid (HGOOD.out hn)
        clear hn
        rcases hs with h | h | h | h <;> (go_wp2 <;> first | (exfalso; omega) | (go_round <;> first | exact ⟨k + 1, by omega, by go_num, HX.out⟩ | (simp [intOf]; omega)) | (exfalso; simp_all; omega))
    · obtain rfl : k = xs.length := by omega
      have HF := hid (all_ok (fun j hj => HA.out j hj hj))
      go_wp2
      go_ret
      exact ⟨by rw [HF.out]; rfl, rfl⟩
set_option maxHeartbeats 1000000 in
theorem l2fieldOK_any (f : PF) (cs : List Value) (w : World) (hr : cField.rd w f cs) :
    Calls Tryz.prog 100 #[val cs] w fun e w' => e = .returned (.bool (fieldOK f)) ∧ Below w.heap.size w w' := by
  obtain ⟨v, rfl, hv, _⟩ := cField_rd hr
  obtain ⟨a, cap, rfl, _, _, _, hrd, hby⟩ := hv.bytes
  simp only [val]
  have HK : Hid (Calls Tryz.prog 144 #[.slice a f.name.length cap] (w.alloc (.cells #[.slice a f.name.length cap, .int .i64 f.kind, .int .i64 f.width] 98)) fun e w' => e = .returned (.bool (nameOK f.name)) ∧ w' = w.alloc (.cells #[.slice a f.name.length cap, .int .i64 f.kind, .int .i64 f.width] 98)) := hid (l2nameOK_any a cap f.name _ (hrd.later (below_new1 _ _)) hby)
  have HF : Hid (fieldOK f = (nameOK f.name && kindOK f)) := hid rfl
  have HKK : Hid (kindOK f = if f.kind = 1 then widthOK f.width else decide (0 ≤ f.kind) && decide (f.kind ≤ 3) && decide (f.width = 0)) := hid rfl
  clear hr hrd hv
  cases hn : nameOK f.name
  · have HX : Hid (fieldOK f = false) := hid (by rw [HF.out, hn]; rfl)
    go_enter Tryz.func100, Tryz.ntmps100
    go_wp2_with fail
    refine HK.out.mono ?_
    rintro e w2 ⟨rfl, rfl⟩
    rw [hn]
    go_wp2
    go_ret
    exact ⟨by rw [HX.out]; rfl, below_new1 _ _⟩
  · by_cases h1 : f.kind = 1
    · have HX : Hid (fieldOK f = widthOK f.width) := hid (by rw [HF.out, hn, HKK.out, if_pos h1]; rfl)
      have H1 := hid h1
      clear h1
      go_enter Tryz.func100, Tryz.ntmps100
      go_wp2_with fail
      refine HK.out.mono ?_
      rintro e w2 ⟨rfl, rfl⟩
      rw [hn]
      have h1 := H1.out
      go_wp2_with fail
      refine (l1width_any f.width _).mono ?_
      rintro e w2 ⟨rfl, rfl⟩
      generalize hwd : decide (f.width = 1 ∨ f.width = 2 ∨ f.width = 4 ∨ f.width = 8) = wd
      go_wp2
      go_ret
      exact ⟨by rw [HX.out, show widthOK f.width = wd from hwd]; rfl, below_new1 _ _⟩
    · by_cases h2 : f.kind < 0
      · have HX : Hid (fieldOK f = false) := hid (by rw [HF.out, hn, HKK.out, if_neg h1, decide_eq_false (show ¬ 0 ≤ f.kind by omega)]; rfl)
        go_enter Tryz.func100, Tryz.ntmps100
        go_wp2_with fail
        refine HK.out.mono ?_
        rintro e w2 ⟨rfl, rfl⟩
        rw [hn]
        go_wp2
        go_ret
        exact ⟨by rw [HX.out]; rfl, below_new1 _ _⟩
      · by_cases h3 : 3 < f.kind
        · have HX : Hid (fieldOK f = false) := hid (by rw [HF.out, hn, HKK.out, if_neg h1, decide_eq_false (show ¬ f.kind ≤ 3 by omega)]; simp)
          go_enter Tryz.func100, Tryz.ntmps100
          go_wp2_with fail
          refine HK.out.mono ?_
          rintro e w2 ⟨rfl, rfl⟩
          rw [hn]
          go_wp2
          go_ret
          exact ⟨by rw [HX.out]; rfl, below_new1 _ _⟩
        · have HX : Hid (fieldOK f = decide (f.width = 0)) := hid (by rw [HF.out, hn, HKK.out, if_neg h1, decide_eq_true (show 0 ≤ f.kind by omega), decide_eq_true (show f.kind ≤ 3 by omega)]; rfl)
          go_enter Tryz.func100, Tryz.ntmps100
          go_wp2_with fail
          refine HK.out.mono ?_
          rintro e w2 ⟨rfl, rfl⟩
          rw [hn]
          go_wp2
          go_ret
          exact ⟨by rw [HX.out]; rfl, below_new1 _ _⟩
end Go.Proofs.YtfaehioeepolhaaGreat
namespace Go.Proofs.YtfaehioeepolhaaGreat
open Go.RowKit
theorem taken_none {fs : List PF} {i : Nat} (hi : i < fs.length) (h : ∀ k, (hk : k < fs.length) → k < i → fs[k].name ≠ fs[i].name) : taken (fs.take i) fs[i].name = false :=
  not_taken (fun k hk => by
    have hk' : k < i := by simp at hk; omega
    simp only [List.getElem_take]
    exact h k (by omega) hk')
theorem taken_some {fs : List PF} {i k : Nat} (hi : i < fs.length) (hk : k < i) (h : fs[k].name = fs[i].name) : taken (fs.take i) fs[i].name = true :=
  taken_at (k := k) (by simp; omega) (by simpa using h)
set_option maxHeartbeats 4000000 in
theorem specFields_any (a : Option Addr) (cap : Nat) (fs : List PF) (w : World) (hr : RdSl cField w fs (.slice a fs.length cap)) :
    Calls Tryz.prog 52 #[.slice a fs.length cap] w fun e w' => e = .returned (.bool (fieldsOK fs)) ∧ Below w.heap.size w w' := by
  have HR := hid hr
  clear hr
  by_cases h1 : fs.length < 1
  · have HD : Hid (fieldsOK fs = false) := hid (by simp [fieldsOK]; omega)
    go_enter Tryz.func52, Tryz.ntmps52
    go_wp2
    go_ret
    exact ⟨by rw [HD.out]; rfl, Below.refl _ _⟩
  by_cases h2 : 12 < fs.length
  · have HD : Hid (fieldsOK fs = false) := hid (by simp [fieldsOK]; omega)
    go_enter Tryz.func52, Tryz.ntmps52
    go_wp2
    go_ret
    exact ⟨by rw [HD.out]; rfl, Below.refl _ _⟩
  have HD : Hid (fieldsOK fs = okTo fs fs.length) := hid (by
    have e1 : decide (1 ≤ fs.length) = true := decide_eq_true (by omega)
    have e2 : decide (fs.length ≤ 12) = true := decide_eq_true (by omega)
    unfold fieldsOK; rw [e1, e2]; rfl)
  go_enter Tryz.func52, Tryz.ntmps52
  go_wp2
  go_loopw [3, 4] (fun i _ wr => ∃ k : Nat, k ≤ fs.length ∧ i = .int .i64 k ∧ okTo fs k = true ∧ Below w.heap.size w wr) (fun i _ _ => fs.length - (intOf i).toNat)
  case atStart => exact ⟨0, Nat.zero_le _, rfl, rfl, Below.refl _ _⟩
  case round =>
    obtain ⟨i, hk, rfl, hok, hbe⟩ := hrel
    have HB := hid hbe
    have HO := hid hok
    clear hbe hok
    by_cases hlt : i < fs.length
    · obtain ⟨b, off, v0, v1, v2, rfl, hes, d0, d1, d2⟩ := (HR.out.later HB.out).at3 rfl hlt
      have HE := hid hes
      have hki : (i : Int) < (fs.length : Int) := by omega
      clear hes
      go_wp2_with fail
      refine (l2fieldOK_any fs[i] _ wr HE.out).mono ?_
      rintro e w2 ⟨rfl, b2⟩
      have HB2 := hid (HB.out.trans (b2.mono HB.out.size))
      cases hf : fieldOK fs[i]
      · have HX := hid (fieldsOK_bad hlt (.inl hf))
        clear b2 hf
        go_wp2
        go_ret
        exact ⟨by rw [HX.out]; rfl, HB2.out⟩
      · have HF := hid hf
        clear b2 hf d0 d1 d2
        go_wp2
        go_loopw [4] (fun j wq => ∃ k : Nat, k ≤ i ∧ j = .int .i64 k ∧ (∀ q, (h : q < fs.length) → q < k → fs[q].name ≠ fs[i].name) ∧ Below w.heap.size w wq) (fun j _ => i - (intOf j).toNat)
        case atStart => exact ⟨0, Nat.zero_le _, rfl, fun q _ h => by omega, HB2.out⟩
        case round =>
          obtain ⟨k, hki2, rfl, hne, hbq⟩ := hrel
          have HBQ := hid hbq
          have HNE := hid hne
          clear hbq hne
          by_cases hlk : k < i
          · have RQ := HR.out.later HBQ.out
            obtain ⟨b', off', x0, x1, x2, e', hx, p0, -, -⟩ := RQ.at3 (k := k) rfl (by omega)
            simp only [Option.some.injEq, Addr.mk.injEq, and_true] at e'
            obtain ⟨rfl, rfl⟩ := e'
            obtain ⟨b', off', y0, y1, y2, e', hy, q0, -, -⟩ := RQ.at3 (k := i) rfl hlt
            simp only [Option.some.injEq, Addr.mk.injEq, and_true] at e'
            obtain ⟨rfl, rfl⟩ := e'
            obtain ⟨vx, ex, hvx, -⟩ := cField_rd hx
            obtain ⟨vy, ey, hvy, -⟩ := cField_rd hy
            obtain ⟨ax, cx, rfl, -, -, -, rx, bx⟩ := hvx.bytes
            obtain ⟨ay, cy, rfl, -, -, -, ry, by_⟩ := hvy.bytes
            simp only [List.cons.injEq] at ex ey
            obtain ⟨rfl, -⟩ := ex
            obtain ⟨rfl, -⟩ := ey
            have HQ : Hid (∀ n, Calls Tryz.prog 101 #[.slice ax fs[k].name.length cx, .slice ay fs[i].name.length cy] (wr.drewN n) fun e w' => e = .returned (.bool (decide (fs[k].name = fs[i].name))) ∧ ∃ m, w' = (wr.drewN n).drewN m) := hid (fun n => by
              refine (l1same_any ax ay cx cy _ _ _ (rx.later (below_drewN (Below.refl _ _) n)) (ry.later (below_drewN (Below.refl _ _) n)) bx by_).mono ?_
              rintro e w' ⟨rfl, rfl⟩
              exact ⟨rfl, 0, rfl⟩)
            have hkk : (k : Int) < (i : Int) := by omega
            have hkl : (k : Int) < (fs.length : Int) := by omega
            clear hvx hvy rx ry bx by_ hx hy RQ
            go_wp2
            go_quiet ((go_at_call 101; exact Calls.quiet_of (HQ.out _)))
            by_cases hsame : fs[k].name = fs[i].name
            · have HX := hid (fieldsOK_bad hlt (.inr (taken_some hlt hlk hsame)))
              rw [decide_eq_true hsame]
              go_wp2
              go_ret
              exact ⟨by rw [HX.out]; rfl, below_drewN HBQ.out _⟩
            · rw [decide_eq_false hsame]
              have HNN : Hid (∀ q, (h : q < fs.length) → q < k + 1 → fs[q].name ≠ fs[i].name) := hid (fun q hq hqk => by
                by_cases e : q = k
                · subst e; exact hsame
                · exact HNE.out q hq (by omega))
              go_wp2
              go_roundw
              case rel => exact ⟨k + 1, by omega, by go_num, HNN.out, below_drewN HBQ.out _⟩
              case measure => simp [intOf]; omega
          · obtain rfl : k = i := by omega
            have HX : Hid (okTo fs (k + 1) = true) := hid (by rw [okTo_succ hlt, HO.out, HF.out, taken_none hlt HNE.out]; rfl)
            go_wp2
            go_roundw
            case rel => exact ⟨k + 1, by omega, by go_num, HX.out, HBQ.out⟩
            case measure => simp [intOf]; omega
    · obtain rfl : i = fs.length := by omega
      have HX : Hid (fieldsOK fs = true) := hid (by rw [HD.out]; exact HO.out)
      go_wp2
      go_ret
      exact ⟨by rw [HX.out]; rfl, HB.out⟩
end Go.Proofs.YtfaehioeepolhaaGreat
