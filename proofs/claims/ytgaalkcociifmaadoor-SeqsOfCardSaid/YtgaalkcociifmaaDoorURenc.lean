/- The document's own Encode. -/
import Derived.Test.YtgaalkcociifmaaDoorUEnc
namespace Go.Proofs.YtgaalkcociifmaaDoor.U
open Go.RowKit Go.Shelf UtfM

set_option maxRecDepth 100000 in
set_option maxHeartbeats 1000000 in
theorem renc_low (r : Int) (h : r < 0) (w : World) : Calls Tryd.prog 15 #[.int .i64 r] w (EncNew w r) := by
  have HS := Lib.hid (enc0 (r := r) (by unfold Sc; omega))
  go_enter Tryd.func15, Tryd.ntmps15
  go_wp2
  go_ret
  exact ⟨none, 0, by rw [HS.out]; rfl, by rw [HS.out]; exact By.nil, by rw [HS.out]; simp, by omega, fun _ => rfl, fun _ => rfl, (fun a ha => by cases ha), Below.refl _ _⟩

set_option maxRecDepth 100000 in
set_option maxHeartbeats 1000000 in
theorem renc_high (r : Int) (h : 1114111 < r) (w : World) : Calls Tryd.prog 15 #[.int .i64 r] w (EncNew w r) := by
  have HS := Lib.hid (enc0 (r := r) (by unfold Sc; omega))
  have d0 : ¬ (r < 0) := by omega
  go_enter Tryd.func15, Tryd.ntmps15
  go_wp2
  go_ret
  exact ⟨none, 0, by rw [HS.out]; rfl, by rw [HS.out]; exact By.nil, by rw [HS.out]; simp, by omega, fun _ => rfl, fun _ => rfl, (fun a ha => by cases ha), Below.refl _ _⟩

set_option maxRecDepth 100000 in
set_option maxHeartbeats 1000000 in
theorem renc_gap (r : Int) (h : 55296 ≤ r) (h2 : r ≤ 57343) (w : World) : Calls Tryd.prog 15 #[.int .i64 r] w (EncNew w r) := by
  have HS := Lib.hid (enc0 (r := r) (by unfold Sc; omega))
  have d0 : ¬ (r < 0) := by omega
  have d1 : ¬ (1114111 < r) := by omega
  go_enter Tryd.func15, Tryd.ntmps15
  go_wp2
  go_ret
  exact ⟨none, 0, by rw [HS.out]; rfl, by rw [HS.out]; exact By.nil, by rw [HS.out]; simp, by omega, fun _ => rfl, fun _ => rfl, (fun a ha => by cases ha), Below.refl _ _⟩

set_option maxRecDepth 100000 in
set_option maxHeartbeats 1000000 in
theorem renc_one (r : Int) (h : 0 ≤ r) (h2 : r < 128) (w : World) : Calls Tryd.prog 15 #[.int .i64 r] w (EncNew w r) := by
  have d0 : ¬ (r < 0) := by omega
  have d1 : ¬ (1114111 < r) := by omega
  have d2 : ¬ (55296 ≤ r) := by omega
  go_enter Tryd.func15, Tryd.ntmps15
  go_wp2
  go_ret
  refine enc_shut w r [r] 1 (enc1 (by unfold Sc; omega) h2) rfl (by omega) (by omega) _ ?_
  simp

set_option maxRecDepth 100000 in
set_option maxHeartbeats 1000000 in
theorem renc_two (r : Int) (h : 128 ≤ r) (h2 : r < 2048) (w : World) : Calls Tryd.prog 15 #[.int .i64 r] w (EncNew w r) := by
  have d0 : ¬ (r < 0) := by omega
  have d1 : ¬ (1114111 < r) := by omega
  have d2 : ¬ (55296 ≤ r) := by omega
  have d3 : ¬ (r < 128) := by omega
  go_enter Tryd.func15, Tryd.ntmps15
  go_wp2
  go_ret
  refine enc_shut w r [192 + r / 64, 128 + r % 64] 2 (enc2 (by unfold Sc; omega) h h2) rfl (by omega) (by omega) _ ?_
  simp

set_option maxRecDepth 100000 in
set_option maxHeartbeats 1000000 in
theorem renc_three (r : Int) (h : 2048 ≤ r) (h2 : r < 55296) (w : World) : Calls Tryd.prog 15 #[.int .i64 r] w (EncNew w r) := by
  have d0 : ¬ (r < 0) := by omega
  have d1 : ¬ (1114111 < r) := by omega
  have d2 : ¬ (55296 ≤ r) := by omega
  have d3 : ¬ (r < 128) := by omega
  have d4 : ¬ (r < 2048) := by omega
  have d5 : r < 65536 := by omega
  go_enter Tryd.func15, Tryd.ntmps15
  go_wp2
  go_ret
  refine enc_shut w r [224 + r / 4096, 128 + r / 64 % 64, 128 + r % 64] 3 (enc3 (by unfold Sc; omega) h (by omega)) rfl (by omega) (by omega) _ ?_
  simp

set_option maxRecDepth 100000 in
set_option maxHeartbeats 1000000 in
theorem renc_threeb (r : Int) (h : 57344 ≤ r) (h2 : r < 65536) (w : World) : Calls Tryd.prog 15 #[.int .i64 r] w (EncNew w r) := by
  have d0 : ¬ (r < 0) := by omega
  have d1 : ¬ (1114111 < r) := by omega
  have d2 : 55296 ≤ r := by omega
  have d6 : ¬ (r ≤ 57343) := by omega
  have d3 : ¬ (r < 128) := by omega
  have d4 : ¬ (r < 2048) := by omega
  go_enter Tryd.func15, Tryd.ntmps15
  go_wp2
  go_ret
  refine enc_shut w r [224 + r / 4096, 128 + r / 64 % 64, 128 + r % 64] 3 (enc3 (by unfold Sc; omega) (by omega) h2) rfl (by omega) (by omega) _ ?_
  simp

set_option maxRecDepth 100000 in
set_option maxHeartbeats 1000000 in
theorem renc_four (r : Int) (h : 65536 ≤ r) (h2 : r ≤ 1114111) (w : World) : Calls Tryd.prog 15 #[.int .i64 r] w (EncNew w r) := by
  have d0 : ¬ (r < 0) := by omega
  have d1 : ¬ (1114111 < r) := by omega
  have d2 : 55296 ≤ r := by omega
  have d6 : ¬ (r ≤ 57343) := by omega
  have d3 : ¬ (r < 128) := by omega
  have d4 : ¬ (r < 2048) := by omega
  have d5 : ¬ (r < 65536) := by omega
  go_enter Tryd.func15, Tryd.ntmps15
  go_wp2
  go_ret
  refine enc_shut w r [240 + r / 262144, 128 + r / 4096 % 64, 128 + r / 64 % 64, 128 + r % 64] 4 (enc4 (by unfold Sc; omega) h) rfl (by omega) (by omega) _ ?_
  simp

theorem renc_c (r : Int) (w : World) : Calls Tryd.prog 15 #[.int .i64 r] w (EncPost w r) := by
  have key : Calls Tryd.prog 15 #[.int .i64 r] w (EncNew w r) := by
    by_cases h0 : r < 0
    · exact renc_low r h0 w
    by_cases h1 : 1114111 < r
    · exact renc_high r h1 w
    by_cases h2 : r < 128
    · exact renc_one r (by omega) h2 w
    by_cases h3 : r < 2048
    · exact renc_two r (by omega) h3 w
    by_cases h4 : r < 55296
    · exact renc_three r (by omega) h4 w
    by_cases h5 : r ≤ 57343
    · exact renc_gap r (by omega) h5 w
    by_cases h6 : r < 65536
    · exact renc_threeb r (by omega) h6 w
    exact renc_four r (by omega) (by omega) w
  exact key.mono fun _ _ ⟨P, c, h1, h2, h3, h4, h5, h6, _, h7⟩ => ⟨P, c, h1, h2, h3, h4, h5, h6, h7⟩
end Go.Proofs.YtgaalkcociifmaaDoor.U
