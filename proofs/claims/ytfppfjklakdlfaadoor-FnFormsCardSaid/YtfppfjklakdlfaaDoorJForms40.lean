import Derived.Test.YtfppfjklakdlfaaDoorJForms39
import Derived.Test.YtfppfjklakdlfaaDoorJForms0
import Derived.Test.YtfppfjklakdlfaaDoorJForms4
import Derived.Test.YtfppfjklakdlfaaDoorJForms13
namespace Go.Proofs.YtfppfjklakdlfaaDoor
open Go.RowKit
set_option maxRecDepth 100000 in
set_option maxHeartbeats 4000000 in
theorem implEnc_any (m : PM) (a : Option Addr) (cap : Nat) (w : World) (hr : RdSl cSS w m.bufs (.slice a m.bufs.length cap)) (ht : totL List.length m.bufs ≤ 1048576) :
    Calls Tryd.prog 15 #[.agg #[.int .i64 m.kind, .int .i64 m.field, .int .i64 m.count, .slice a m.bufs.length cap]] w (EncPost w (encR m)) := by
  obtain ⟨kind, field, count, bs⟩ := m
  dsimp only at *
  have HR := hid hr
  have hb0 := below_new1 w (.cells #[.int .i64 kind, .int .i64 field, .int .i64 count, .slice a bs.length cap] 25)
  have HV := hid (validMessage_any ⟨kind, field, count, bs⟩ a cap _ (hr.later hb0) ht)
  dsimp only at HV
  have HB0 := hid hb0
  have HE := hid (encR_eq ⟨kind, field, count, bs⟩)
  clear hb0
  cases hok : encOK ⟨kind, field, count, bs⟩ with
  | false =>
    have HR0 : Hid (encR ⟨kind, field, count, bs⟩ = []) := hid (by rw [HE.out, hok]; rfl)
    rw [hok] at HV
    clear hok HE hr
    rw [HR0.out]
    go_enter Tryd.func15, Tryd.ntmps15
    go_wp2_with fail
    refine HV.out.mono ?_
    rintro e w1 ⟨rfl, b1⟩
    go_wp2
    go_ret
    exact encPost_nil (below_chain HB0.out b1) rfl
  | true =>
    have hR0 : encR ⟨kind, field, count, bs⟩ = encB ⟨kind, field, count, bs⟩ := by rw [HE.out, hok]; rfl
    rw [hok] at HV
    rw [hR0]
    have h1 := hok
    unfold encOK at h1
    simp only [Bool.and_eq_true, decide_eq_true_eq, msgOK] at h1
    obtain ⟨h2, h3⟩ := h1
    obtain ⟨K, rfl⟩ : ∃ K : Nat, kind = K := ⟨kind.toNat, by omega⟩
    obtain ⟨F, rfl⟩ : ∃ F : Nat, field = F := ⟨field.toNat, by omega⟩
    obtain ⟨C, rfl⟩ : ∃ C : Nat, count = C := ⟨count.toNat, by omega⟩
    have hB : encB ⟨(K : Int), (F : Int), (C : Int), bs⟩ = encM K F C bs := by simp [encB]
    rw [hB] at h3 ⊢
    exact implEnc_ok K F C bs a cap w hr ht (by omega) (by omega) (by omega) (by omega) h3 HV.out
end Go.Proofs.YtfppfjklakdlfaaDoor
namespace Go.Proofs.YtfppfjklakdlfaaDoor
open Go.RowKit
set_option maxHeartbeats 400000 in
theorem read_u16 (b off cap n : Nat) (xs : List Nat) (w : World) (hc : ∀ i, (h : i < xs.length) → w.cell? ⟨b, off + i, none⟩ = some (.int .u8 (xs[i] : Int))) (hx : ∀ x ∈ xs, x < 256) (hn : xs.length = n) (hl : n ≤ 8) :
    Calls Tryd.prog 62 #[.slice (some ⟨b, off, none⟩) n cap] w fun e w' => e = .returned (.int .u16 (IntKind.u16.wrap ((num xs : Nat) : Int))) ∧ w' = w := by
  subst hn
  go_enter Tryd.func62, Tryd.ntmps62
  go_wp2
  go_loop [3, 8] (fun v i => ∃ k : Nat, k ≤ xs.length ∧ i = .int .i64 k ∧ v = .int .u64 ((num (xs.take k) : Nat) : Int)) (fun _ i => xs.length - (intOf i).toNat)
  case atStart => exact ⟨0, Nat.zero_le _, rfl, rfl⟩
  case round =>
    obtain ⟨k, hk, rfl, rfl⟩ := hrel
    by_cases hlt : k < xs.length
    · have g1 := hc k hlt
      have hki : (k : Int) < (xs.length : Int) := by omega
      have hxk : xs[k] < 256 := hx _ (List.getElem_mem _)
      have HS := hid (or_step xs k hlt hx hl)
      generalize num (xs.take k) = N at *
      go_wp2
      go_round
      case rel => exact ⟨k + 1, by omega, by go_num, by rw [← HS.out]⟩
      case measure => simp [intOf]; omega
    · obtain rfl : k = xs.length := by omega
      rw [List.take_length]
      go_wp2
      go_ret
      exact ⟨ret_int rfl, rfl⟩
theorem readc_u16 (b off off' cap n k : Nat) (xs : List Nat) (w : World) (hc : ∀ i, (h : i < xs.length) → w.cell? ⟨b, off + i, none⟩ = some (.int .u8 (xs[i] : Int))) (hx : ∀ x ∈ xs, x < 256) (hin : 2 * k + 2 ≤ xs.length) (ho : off' = off + 2 * k) (hn : n = 2) :
    Calls Tryd.prog 62 #[.slice (some ⟨b, off', none⟩) n cap] w fun e w' => e = .returned (.int .u16 (IntKind.u16.wrap ((num (chunk xs 2 k) : Nat) : Int))) ∧ w' = w := by
  subst ho
  refine read_u16 b _ cap n (chunk xs 2 k) w (fun i h => ?_) (chunk_lt hx) (by rw [chunk_len hin, hn]) (by omega)
  have hl := chunk_len hin
  have h2 : 2 * k + i < xs.length := by omega
  have := hc (2 * k + i) h2
  rw [chunk_at h h2, ← this, Nat.add_assoc]
end Go.Proofs.YtfppfjklakdlfaaDoor
namespace Go.Proofs.YtfppfjklakdlfaaDoor
open Go.RowKit
set_option maxHeartbeats 400000 in
theorem bytesEqual_any (a1 a2 : Option Addr) (c1 c2 : Nat) (xs ys : List Nat) (w : World) (h1 : Rd w a1 (byt xs)) (h2 : Rd w a2 (byt ys)) (hx : ∀ x ∈ xs, x < 256) (hy : ∀ x ∈ ys, x < 256) :
    Calls Tryd.prog 60 #[.slice a1 xs.length c1, .slice a2 ys.length c2] w fun e w' => e = .returned (.bool (decide (xs = ys))) ∧ w' = w := by
  have e1 := run_bstr (P := Tryd.prog) (c := c1) Tryd.underlying22 Tryd.underlying5 Tryd.underlying9 h1
  have e2 := run_bstr (P := Tryd.prog) (c := c2) Tryd.underlying22 Tryd.underlying5 Tryd.underlying9 h2
  have HD : Hid (decide (xs = ys) = ((bstr xs).toList == (bstr ys).toList)) := hid (bstr_beq hx hy)
  rw [HD.out]
  clear h1 h2
  generalize bstr xs = s at *
  generalize bstr ys = t at *
  go_enter Tryd.func60, Tryd.ntmps60
  go_wp2
  go_ret
  exact ⟨rfl, rfl⟩
end Go.Proofs.YtfppfjklakdlfaaDoor
